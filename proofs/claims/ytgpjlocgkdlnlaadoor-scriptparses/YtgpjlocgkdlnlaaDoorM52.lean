/- Contracts of the same values are the same. -/
import Derived.Test.YtgpjlocgkdlnlaaDoorSSamB

namespace Go.Proofs.YtgpjlocgkdlnlaaDoor
open Go.RowKit
set_option linter.unusedVariables false
set_option linter.unusedSimpArgs false

set_option maxRecDepth 8000 in
set_option maxHeartbeats 3200000 in
theorem sameC_m (w0 : World) {lo lo' : Nat} {nm : Key} {a1 a2 a3 b1 b2 b3 : Option Addr} {c1 c2 c3 d1 d2 d3 : Nat} {e1 e2 e3 g1 g2 g3 : List (List Fld)} (hA1 : (Fld.l a1 c1 e1).lies lo w0) (hA2 : (Fld.l a2 c2 e2).lies lo w0) (hA3 : (Fld.l a3 c3 e3).lies lo w0) (hB1 : (Fld.l b1 d1 g1).lies lo' w0) (hB2 : (Fld.l b2 d2 g2).lies lo' w0) (hB3 : (Fld.l b3 d3 g3).lies lo' w0) (q1 : pvRows e1 = pvRows g1) (q2 : pvRows e2 = pvRows g2) (q3 : pvRows e3 = pvRows g3) (h1 : ∀ x ∈ pvRows e1, ShP x) (h2 : ∀ x ∈ pvRows e2, ShT x) (h3 : ∀ x ∈ pvRows e3, ShF x) : Meth Tryd.prog (Bx w0) (fun _ => False) 6 [.agg ((ctF nm a1 c1 e1 a2 c2 e2 a3 c3 e3).map Fld.val).toArray, .agg ((ctF nm b1 d1 g1 b2 d2 g2 b3 d3 g3).map Fld.val).toArray] () (fun v _ _ => v = .bool true) := by
  refine ⟨by kernel_rfl, fun wO R _ => ?_⟩
  have M := bx_begin R
  refine sw_fn Tryd.func6 rfl 110 Tryd.ntmps6 rfl fun A F => ?_
  refine sw_seq ?_
  refine sw_reg ?_
  refine sw_box F M [.string (str nm), .slice a1 e1.length c1, .slice a2 e2.length c2, .slice a3 e3.length c3] ⟨rfl, rfl, rfl⟩ rfl rfl rfl fun x1 A w F M => ?_
  refine sw_box F M [.string (str nm), .slice b1 g1.length d1, .slice b2 g2.length d2, .slice b3 g3.length d3] ⟨rfl, rfl, rfl⟩ rfl rfl rfl fun x2 A w F M => ?_
  refine sw_asg F ⟨rfl, rfl, rfl⟩ rfl rfl fun A F => ?_
  refine sw_end ?_
  show Code.wp _ _ _ _ _
  refine sw_seq ?_
  refine sw_seq ?_
  refine sw_reg ?_
  refine sw_fld F 0 ⟨rfl, rfl, rfl⟩ rfl (by kernel_rfl) rfl rfl fun A F => ?_
  refine sw_cell F M 1 ⟨rfl, rfl, rfl⟩ rfl rfl rfl (by kernel_rfl) rfl fun A F => ?_
  refine sw_fld F 0 ⟨rfl, rfl, rfl⟩ rfl (by kernel_rfl) rfl rfl fun A F => ?_
  refine sw_cell F M 0 ⟨rfl, rfl, rfl⟩ rfl rfl rfl (by kernel_rfl) rfl fun A F => ?_
  refine sw_ns F ⟨rfl, rfl, rfl⟩ rfl rfl rfl fun A F => ?_
  refine sw_move F ⟨rfl, rfl, rfl⟩ rfl rfl fun A F => ?_
  refine sw_on F 5 rfl rfl rfl rfl rfl ?_
  refine sw_fld F 1 ⟨rfl, rfl, rfl⟩ rfl (by kernel_rfl) rfl rfl fun A F => ?_
  refine sw_on F 5 rfl rfl rfl rfl rfl ?_
  refine sw_cell F M 1 ⟨rfl, rfl, rfl⟩ rfl rfl rfl (by kernel_rfl) rfl fun A F => ?_
  refine sw_on F 5 rfl rfl rfl rfl rfl ?_
  refine sw_fld F 1 ⟨rfl, rfl, rfl⟩ rfl (by kernel_rfl) rfl rfl fun A F => ?_
  refine sw_on F 5 rfl rfl rfl rfl rfl ?_
  refine sw_cell F M 0 ⟨rfl, rfl, rfl⟩ rfl rfl rfl (by kernel_rfl) rfl fun A F => ?_
  refine sw_on F 5 rfl rfl rfl rfl rfl ?_
  refine sw_call0 (sameP_m w0 hA1 hB1 q1 h1) F M ⟨rfl, rfl, rfl⟩ rfl rfl ?_
  rintro _ _ A w ⟨_, rfl⟩ F M
  refine sw_on F 5 rfl rfl rfl rfl rfl ?_
  refine sw_not F ⟨rfl, rfl, rfl⟩ rfl rfl fun A F => ?_
  refine sw_pickF F ⟨rfl, rfl, rfl⟩ rfl rfl rfl fun A F => ?_
  refine sw_move F ⟨rfl, rfl, rfl⟩ rfl rfl fun A F => ?_
  refine sw_on F 13 rfl rfl rfl rfl rfl ?_
  refine sw_fld F 2 ⟨rfl, rfl, rfl⟩ rfl (by kernel_rfl) rfl rfl fun A F => ?_
  refine sw_on F 13 rfl rfl rfl rfl rfl ?_
  refine sw_cell F M 1 ⟨rfl, rfl, rfl⟩ rfl rfl rfl (by kernel_rfl) rfl fun A F => ?_
  refine sw_on F 13 rfl rfl rfl rfl rfl ?_
  refine sw_len F ⟨rfl, rfl, rfl⟩ rfl (Tryd.underlying23) rfl fun A F => ?_
  refine sw_on F 13 rfl rfl rfl rfl rfl ?_
  refine sw_fld F 2 ⟨rfl, rfl, rfl⟩ rfl (by kernel_rfl) rfl rfl fun A F => ?_
  refine sw_on F 13 rfl rfl rfl rfl rfl ?_
  refine sw_cell F M 0 ⟨rfl, rfl, rfl⟩ rfl rfl rfl (by kernel_rfl) rfl fun A F => ?_
  refine sw_on F 13 rfl rfl rfl rfl rfl ?_
  refine sw_len F ⟨rfl, rfl, rfl⟩ rfl (Tryd.underlying23) rfl fun A F => ?_
  refine sw_on F 13 rfl rfl rfl rfl rfl ?_
  refine sw_nn (by rw [len_of q2]) F ⟨rfl, rfl, rfl⟩ rfl rfl rfl fun A F => ?_
  refine sw_pickF F ⟨rfl, rfl, rfl⟩ rfl rfl rfl fun A F => ?_
  refine sw_move F ⟨rfl, rfl, rfl⟩ rfl rfl fun A F => ?_
  refine sw_on F 22 rfl rfl rfl rfl rfl ?_
  refine sw_fld F 3 ⟨rfl, rfl, rfl⟩ rfl (by kernel_rfl) rfl rfl fun A F => ?_
  refine sw_on F 22 rfl rfl rfl rfl rfl ?_
  refine sw_cell F M 1 ⟨rfl, rfl, rfl⟩ rfl rfl rfl (by kernel_rfl) rfl fun A F => ?_
  refine sw_on F 22 rfl rfl rfl rfl rfl ?_
  refine sw_len F ⟨rfl, rfl, rfl⟩ rfl (Tryd.underlying24) rfl fun A F => ?_
  refine sw_on F 22 rfl rfl rfl rfl rfl ?_
  refine sw_fld F 3 ⟨rfl, rfl, rfl⟩ rfl (by kernel_rfl) rfl rfl fun A F => ?_
  refine sw_on F 22 rfl rfl rfl rfl rfl ?_
  refine sw_cell F M 0 ⟨rfl, rfl, rfl⟩ rfl rfl rfl (by kernel_rfl) rfl fun A F => ?_
  refine sw_on F 22 rfl rfl rfl rfl rfl ?_
  refine sw_len F ⟨rfl, rfl, rfl⟩ rfl (Tryd.underlying24) rfl fun A F => ?_
  refine sw_on F 22 rfl rfl rfl rfl rfl ?_
  refine sw_nn (by rw [len_of q3]) F ⟨rfl, rfl, rfl⟩ rfl rfl rfl fun A F => ?_
  refine sw_pickF F ⟨rfl, rfl, rfl⟩ rfl rfl rfl fun A F => ?_
  refine sw_end ?_
  show Code.wp _ _ _ _ _
  refine sw_false F rfl ?_
  refine wp_skip ?_
  show Code.wp _ _ _ _ _
  refine sw_seq ?_
  refine sw_seq ?_
  refine sw_reg ?_
  refine sw_asg F ⟨rfl, rfl, rfl⟩ rfl rfl fun A F => ?_
  refine sw_end ?_
  show Code.wp _ _ _ _ _
  refine wp_block ?_
  refine wp_loop (fun A w => ∃ k : Nat, k ≤ e2.length ∧ Fm 110 [(5, .int .i64 (k : Int)), (2, .pointer (some ⟨x1, 0, none⟩)), (3, .pointer (some ⟨x2, 0, none⟩))] A ∧ Mm (Bx w0) (fun _ => False) wO [.box x2 [.string (str nm), .slice b1 g1.length d1, .slice b2 g2.length d2, .slice b3 g3.length d3] 26, .box x1 [.string (str nm), .slice a1 e1.length c1, .slice a2 e2.length c2, .slice a3 e3.length c3] 26] () w) (fun A _ => e2.length - (intOf (A.eval (.tmp 5))).toNat) ?_ ?_
  · exact ⟨0, Nat.zero_le _, F.keep [5, 2, 3] rfl, M⟩
  repeat clear F
  repeat clear M
  rintro A w ⟨k, hlk, F, M⟩
  have hAk : A.eval (.tmp 5) = .int .i64 (k : Int) := F.2.2 5 _ rfl
  refine sw_seq ?_
  refine sw_seq ?_
  refine sw_reg ?_
  refine sw_move F ⟨rfl, rfl, rfl⟩ rfl rfl fun A F => ?_
  refine sw_fld F 2 ⟨rfl, rfl, rfl⟩ rfl (by kernel_rfl) rfl rfl fun A F => ?_
  refine sw_cell F M 1 ⟨rfl, rfl, rfl⟩ rfl rfl rfl (by kernel_rfl) rfl fun A F => ?_
  refine sw_len F ⟨rfl, rfl, rfl⟩ rfl (Tryd.underlying23) rfl fun A F => ?_
  refine sw_lss F ⟨rfl, rfl, rfl⟩ rfl rfl rfl fun A F => ?_
  refine sw_end ?_
  show Code.wp _ _ _ _ _
  refine sw_cond F rfl (fun hck => ?_) (fun hck => ?_)
  · skip
    have hkk : k < e2.length := by have := of_decide_eq_true hck; omega
    obtain ⟨bk, ok, dk, rfl, hdk, rak, lik, hmk⟩ := el_at hA2 (sz_of (n := 3) fun x hx => by obtain ⟨s, n, m, rfl⟩ := h2 x hx; rfl) hkk
    obtain ⟨bkq, okq, dkq, rfl, hdkq, rbk, likq, hmkq⟩ := el_at hB2 (sz_of (n := 3) fun x hx => by obtain ⟨s, n, m, rfl⟩ := h2 x (by rw [q2]; exact hx); rfl) (k := k) (by rw [len_of q2]; exact hkk)
    have hqk := el_same q2 hdk hdkq
    obtain ⟨s, n, m, hs⟩ := h2 _ hmk
    have u1 := inv_T hs
    have u2 := inv_T (hqk.trans hs)
    subst u1 u2
    refine wp_skip ?_
    show Code.wp _ _ _ _ _
    refine sw_seq ?_
    refine wp_block ?_
    refine sw_seq ?_
    refine wp_region_held (S := fun w' => w'.cell? ⟨x1, 2, none⟩ = some (.slice (some ⟨bk, ok, none⟩) e2.length c2) ∧ w'.cell? ⟨x2, 2, none⟩ = some (.slice (some ⟨bkq, okq, none⟩) g2.length d2) ∧ Bx w0 () w') (by kernel_rfl) ?_
    show wpAnyH _ _ _ _ _ _ _ _ w.drew
    replace M := M.drew
    have hS : w.drew.cell? ⟨x1, 2, none⟩ = some (.slice (some ⟨bk, ok, none⟩) e2.length c2) ∧ w.drew.cell? ⟨x2, 2, none⟩ = some (.slice (some ⟨bkq, okq, none⟩) g2.length d2) ∧ Bx w0 () w.drew := ⟨M.cell 1 rfl rfl, M.cell 0 rfl rfl, M.st⟩
    refine sd_fld F 0 2 rfl ⟨rfl, rfl, rfl⟩ rfl (by kernel_rfl) rfl (by kernel_rfl) (by kernel_rfl) (by kernel_rfl) (fun _ _ _ h => h) rfl hS fun A F => ?_
    refine sd_cell F 1 rfl ⟨rfl, rfl, rfl⟩ rfl (by kernel_rfl) (fun _ h => h.1) (by kernel_rfl) (by kernel_rfl) (by kernel_rfl) (fun _ _ _ h => h) rfl hS fun A F => ?_
    refine sd_move F 2 rfl ⟨rfl, rfl, rfl⟩ rfl (by kernel_rfl) (by kernel_rfl) (by kernel_rfl) (fun _ _ _ h => h) rfl hS fun A F => ?_
    refine sd_at F 3 3 rfl ⟨rfl, rfl, rfl⟩ rfl rfl hkk Tryd.underlying23 (by kernel_rfl) (by kernel_rfl) (by kernel_rfl) (by kernel_rfl) (fun _ _ _ h => h) rfl hS fun A F => ?_
    refine sd_rng F 4 (cs := [.string (str s), .int .i64 n, .int .i64 m]) rfl ⟨rfl, rfl, rfl⟩ rfl (by kernel_rfl) (by kernel_rfl) (fun w h => rak w h.2.2) (by kernel_rfl) (by kernel_rfl) (by kernel_rfl) (fun _ _ _ h => h) rfl hS fun A F => ?_
    refine sd_fld F 5 2 rfl ⟨rfl, rfl, rfl⟩ rfl (by kernel_rfl) rfl (by kernel_rfl) (by kernel_rfl) (by kernel_rfl) (fun _ _ _ h => h) rfl hS fun A F => ?_
    refine sd_cell F 6 rfl ⟨rfl, rfl, rfl⟩ rfl (by kernel_rfl) (fun _ h => h.2.1) (by kernel_rfl) (by kernel_rfl) (by kernel_rfl) (fun _ _ _ h => h) rfl hS fun A F => ?_
    refine sd_move F 7 rfl ⟨rfl, rfl, rfl⟩ rfl (by kernel_rfl) (by kernel_rfl) (by kernel_rfl) (fun _ _ _ h => h) rfl hS fun A F => ?_
    refine sd_at F 8 3 rfl ⟨rfl, rfl, rfl⟩ rfl rfl (by rw [len_of q2]; exact hkk) Tryd.underlying23 (by kernel_rfl) (by kernel_rfl) (by kernel_rfl) (by kernel_rfl) (fun _ _ _ h => h) rfl hS fun A F => ?_
    refine sd_rng F 9 (cs := [.string (str s), .int .i64 n, .int .i64 m]) rfl ⟨rfl, rfl, rfl⟩ rfl (by kernel_rfl) (by kernel_rfl) (fun w h => rbk w h.2.2) (by kernel_rfl) (by kernel_rfl) (by kernel_rfl) (fun _ _ _ h => h) rfl hS fun A F => ?_
    refine sd_val (v := .bool false) F 10 rfl (by kernel_rfl) (by kernel_rfl) (by kernel_rfl) (fun _ _ _ h => h) rfl rfl rfl (fun _ _ => run_nT rfl (F.ev rfl) (F.ev rfl)) hS fun A F => ?_
    clear hS
    refine wpAnyH_done (by kernel_rfl) ?_ _
    show Code.wp _ _ _ _ _
    refine sw_false F rfl ?_
    refine wp_skip ?_
    show Code.wp _ _ _ _ _
    refine sw_reg ?_
    refine sw_move F ⟨rfl, rfl, rfl⟩ rfl rfl fun A F => ?_
    refine sw_add F ⟨rfl, rfl, rfl⟩ rfl rfl (by have := lie_max hA2; omega) rfl fun A F => ?_
    refine sw_asg F ⟨rfl, rfl, rfl⟩ rfl rfl fun A F => ?_
    refine sw_end ?_
    show _ ∧ _
    refine ⟨⟨k + 1, by omega, F.keep [5, 2, 3] rfl, M⟩, ?_⟩
    rw [(F.keep (N := 110) (L' := [(5, .int .i64 ((k + 1 : Nat) : Int))]) [5] rfl).2.2 5 (.int .i64 ((k + 1 : Nat) : Int)) rfl, hAk]
    simp only [intOf]
    omega
  · skip
    refine wp_exit ?_
    repeat (first | refine then_exit ?_ | refine exit_block ?_ | refine exit_pass rfl ?_)
    show Code.wp _ _ _ _ _
    refine sw_seq ?_
    refine sw_seq ?_
    refine sw_reg ?_
    refine sw_asg F ⟨rfl, rfl, rfl⟩ rfl rfl fun A F => ?_
    refine sw_end ?_
    show Code.wp _ _ _ _ _
    refine wp_block ?_
    refine wp_loop (fun A w => ∃ j : Nat, j ≤ e3.length ∧ Fm 110 [(6, .int .i64 (j : Int)), (2, .pointer (some ⟨x1, 0, none⟩)), (3, .pointer (some ⟨x2, 0, none⟩))] A ∧ Mm (Bx w0) (fun _ => False) wO [.box x2 [.string (str nm), .slice b1 g1.length d1, .slice b2 g2.length d2, .slice b3 g3.length d3] 26, .box x1 [.string (str nm), .slice a1 e1.length c1, .slice a2 e2.length c2, .slice a3 e3.length c3] 26] () w) (fun A _ => e3.length - (intOf (A.eval (.tmp 6))).toNat) ?_ ?_
    · exact ⟨0, Nat.zero_le _, F.keep [6, 2, 3] rfl, M⟩
    repeat clear F
    repeat clear M
    rintro A w ⟨j, hlj, F, M⟩
    have hAj : A.eval (.tmp 6) = .int .i64 (j : Int) := F.2.2 6 _ rfl
    refine sw_seq ?_
    refine sw_seq ?_
    refine sw_reg ?_
    refine sw_move F ⟨rfl, rfl, rfl⟩ rfl rfl fun A F => ?_
    refine sw_fld F 3 ⟨rfl, rfl, rfl⟩ rfl (by kernel_rfl) rfl rfl fun A F => ?_
    refine sw_cell F M 1 ⟨rfl, rfl, rfl⟩ rfl rfl rfl (by kernel_rfl) rfl fun A F => ?_
    refine sw_len F ⟨rfl, rfl, rfl⟩ rfl (Tryd.underlying24) rfl fun A F => ?_
    refine sw_lss F ⟨rfl, rfl, rfl⟩ rfl rfl rfl fun A F => ?_
    refine sw_end ?_
    show Code.wp _ _ _ _ _
    refine sw_cond F rfl (fun hcj => ?_) (fun hcj => ?_)
    · skip
      have hkj : j < e3.length := by have := of_decide_eq_true hcj; omega
      obtain ⟨bj, oj, dj, rfl, hdj, raj, lij, hmj⟩ := el_at hA3 (sz_of (n := 5) fun x hx => by obtain ⟨_, _, _, _, _, rfl, _⟩ := h3 x hx; rfl) hkj
      obtain ⟨bjq, ojq, djq, rfl, hdjq, rbj, lijq, hmjq⟩ := el_at hB3 (sz_of (n := 5) fun x hx => by obtain ⟨_, _, _, _, _, rfl, _⟩ := h3 x (by rw [q3]; exact hx); rfl) (k := j) (by rw [len_of q3]; exact hkj)
      have hqj := el_same q3 hdj hdjq
      obtain ⟨s, o, ps, n, bl, hek, hps, hbl⟩ := h3 _ hmj
      obtain ⟨pa, pc, pp, ba, bc, bb, u1, i1, i2⟩ := inv_F hek
      obtain ⟨paq, pcq, ppq, baq, bcq, bbq, u2, j1, j2⟩ := inv_F (hqj.trans hek)
      subst u1 u2
      have hP : (Fld.l pa pc pp).lies lo w0 := lij _ (by simp)
      have hPq : (Fld.l paq pcq ppq).lies lo' w0 := lijq _ (by simp)
      have hB : (Fld.l ba bc bb).lies lo w0 := lij _ (by simp)
      have hBq : (Fld.l baq bcq bbq).lies lo' w0 := lijq _ (by simp)
      refine wp_skip ?_
      show Code.wp _ _ _ _ _
      refine sw_seq ?_
      refine wp_block ?_
      refine sw_seq ?_
      refine sw_reg ?_
      refine sw_fld F 3 ⟨rfl, rfl, rfl⟩ rfl (by kernel_rfl) rfl rfl fun A F => ?_
      refine sw_cell F M 1 ⟨rfl, rfl, rfl⟩ rfl rfl rfl (by kernel_rfl) rfl fun A F => ?_
      refine sw_move F ⟨rfl, rfl, rfl⟩ rfl rfl fun A F => ?_
      refine sw_at F 5 ⟨rfl, rfl, rfl⟩ rfl rfl hkj Tryd.underlying24 (by kernel_rfl) rfl fun A F => ?_
      refine sw_rng F (cs := [.string (str s), .bool o, .slice pa pp.length pc, .int .i64 n, .slice ba bb.length bc]) (raj w M.st) ⟨rfl, rfl, rfl⟩ rfl (by kernel_rfl) (by kernel_rfl) rfl fun A F => ?_
      refine sw_alloc F M [.string ⟨#[]⟩, .bool false, .slice none 0 0, .int .i64 0, .slice none 0 0] ⟨rfl, rfl, rfl⟩ (by kernel_rfl) rfl fun x3 A w F M => ?_
      refine sw_setAll F M 0 ⟨rfl, rfl, rfl⟩ rfl rfl rfl (by kernel_rfl) rfl rfl fun w M => ?_
      simp only [List.set_cons_zero, List.set_cons_succ] at M
      refine sw_end ?_
      show Code.wp _ _ _ _ _
      refine sw_seq ?_
      refine sw_reg ?_
      refine sw_fld F 3 ⟨rfl, rfl, rfl⟩ rfl (by kernel_rfl) rfl rfl fun A F => ?_
      refine sw_cell F M 1 ⟨rfl, rfl, rfl⟩ rfl rfl rfl (by kernel_rfl) rfl fun A F => ?_
      refine sw_move F ⟨rfl, rfl, rfl⟩ rfl rfl fun A F => ?_
      refine sw_at F 5 ⟨rfl, rfl, rfl⟩ rfl rfl (by rw [len_of q3]; exact hkj) Tryd.underlying24 (by kernel_rfl) rfl fun A F => ?_
      refine sw_rng F (cs := [.string (str s), .bool o, .slice paq ppq.length pcq, .int .i64 n, .slice baq bbq.length bcq]) (rbj w M.st) ⟨rfl, rfl, rfl⟩ rfl (by kernel_rfl) (by kernel_rfl) rfl fun A F => ?_
      refine sw_alloc F M [.string ⟨#[]⟩, .bool false, .slice none 0 0, .int .i64 0, .slice none 0 0] ⟨rfl, rfl, rfl⟩ (by kernel_rfl) rfl fun x4 A w F M => ?_
      refine sw_setAll F M 0 ⟨rfl, rfl, rfl⟩ rfl rfl rfl (by kernel_rfl) rfl rfl fun w M => ?_
      simp only [List.set_cons_zero, List.set_cons_succ] at M
      refine sw_end ?_
      show Code.wp _ _ _ _ _
      refine sw_seq ?_
      refine sw_reg ?_
      refine sw_fld F 0 ⟨rfl, rfl, rfl⟩ rfl (by kernel_rfl) rfl rfl fun A F => ?_
      refine sw_cell F M 1 ⟨rfl, rfl, rfl⟩ rfl rfl rfl (by kernel_rfl) rfl fun A F => ?_
      refine sw_fld F 0 ⟨rfl, rfl, rfl⟩ rfl (by kernel_rfl) rfl rfl fun A F => ?_
      refine sw_cell F M 0 ⟨rfl, rfl, rfl⟩ rfl rfl rfl (by kernel_rfl) rfl fun A F => ?_
      refine sw_ns F ⟨rfl, rfl, rfl⟩ rfl rfl rfl fun A F => ?_
      refine sw_move F ⟨rfl, rfl, rfl⟩ rfl rfl fun A F => ?_
      refine sw_on F 5 rfl rfl rfl rfl rfl ?_
      refine sw_fld F 1 ⟨rfl, rfl, rfl⟩ rfl (by kernel_rfl) rfl rfl fun A F => ?_
      refine sw_on F 5 rfl rfl rfl rfl rfl ?_
      refine sw_cell F M 1 ⟨rfl, rfl, rfl⟩ rfl rfl rfl (by kernel_rfl) rfl fun A F => ?_
      refine sw_on F 5 rfl rfl rfl rfl rfl ?_
      refine sw_fld F 1 ⟨rfl, rfl, rfl⟩ rfl (by kernel_rfl) rfl rfl fun A F => ?_
      refine sw_on F 5 rfl rfl rfl rfl rfl ?_
      refine sw_cell F M 0 ⟨rfl, rfl, rfl⟩ rfl rfl rfl (by kernel_rfl) rfl fun A F => ?_
      refine sw_on F 5 rfl rfl rfl rfl rfl ?_
      refine sw_nb Tryd.underlying4 F ⟨rfl, rfl, rfl⟩ rfl rfl rfl fun A F => ?_
      refine sw_pickF F ⟨rfl, rfl, rfl⟩ rfl rfl rfl fun A F => ?_
      refine sw_move F ⟨rfl, rfl, rfl⟩ rfl rfl fun A F => ?_
      refine sw_on F 12 rfl rfl rfl rfl rfl ?_
      refine sw_fld F 3 ⟨rfl, rfl, rfl⟩ rfl (by kernel_rfl) rfl rfl fun A F => ?_
      refine sw_on F 12 rfl rfl rfl rfl rfl ?_
      refine sw_cell F M 1 ⟨rfl, rfl, rfl⟩ rfl rfl rfl (by kernel_rfl) rfl fun A F => ?_
      refine sw_on F 12 rfl rfl rfl rfl rfl ?_
      refine sw_fld F 3 ⟨rfl, rfl, rfl⟩ rfl (by kernel_rfl) rfl rfl fun A F => ?_
      refine sw_on F 12 rfl rfl rfl rfl rfl ?_
      refine sw_cell F M 0 ⟨rfl, rfl, rfl⟩ rfl rfl rfl (by kernel_rfl) rfl fun A F => ?_
      refine sw_on F 12 rfl rfl rfl rfl rfl ?_
      refine sw_ni F ⟨rfl, rfl, rfl⟩ rfl rfl rfl fun A F => ?_
      refine sw_pickF F ⟨rfl, rfl, rfl⟩ rfl rfl rfl fun A F => ?_
      refine sw_move F ⟨rfl, rfl, rfl⟩ rfl rfl fun A F => ?_
      refine sw_on F 19 rfl rfl rfl rfl rfl ?_
      refine sw_fld F 2 ⟨rfl, rfl, rfl⟩ rfl (by kernel_rfl) rfl rfl fun A F => ?_
      refine sw_on F 19 rfl rfl rfl rfl rfl ?_
      refine sw_cell F M 1 ⟨rfl, rfl, rfl⟩ rfl rfl rfl (by kernel_rfl) rfl fun A F => ?_
      refine sw_on F 19 rfl rfl rfl rfl rfl ?_
      refine sw_fld F 2 ⟨rfl, rfl, rfl⟩ rfl (by kernel_rfl) rfl rfl fun A F => ?_
      refine sw_on F 19 rfl rfl rfl rfl rfl ?_
      refine sw_cell F M 0 ⟨rfl, rfl, rfl⟩ rfl rfl rfl (by kernel_rfl) rfl fun A F => ?_
      refine sw_on F 19 rfl rfl rfl rfl rfl ?_
      refine sw_call0 (sameP_m w0 hP hPq (i1.trans j1.symm) (by rw [i1]; exact hps)) F M ⟨rfl, rfl, rfl⟩ rfl rfl ?_
      rintro _ _ A w ⟨_, rfl⟩ F M
      refine sw_on F 19 rfl rfl rfl rfl rfl ?_
      refine sw_not F ⟨rfl, rfl, rfl⟩ rfl rfl fun A F => ?_
      refine sw_pickF F ⟨rfl, rfl, rfl⟩ rfl rfl rfl fun A F => ?_
      refine sw_move F ⟨rfl, rfl, rfl⟩ rfl rfl fun A F => ?_
      refine sw_on F 27 rfl rfl rfl rfl rfl ?_
      refine sw_fld F 4 ⟨rfl, rfl, rfl⟩ rfl (by kernel_rfl) rfl rfl fun A F => ?_
      refine sw_on F 27 rfl rfl rfl rfl rfl ?_
      refine sw_cell F M 1 ⟨rfl, rfl, rfl⟩ rfl rfl rfl (by kernel_rfl) rfl fun A F => ?_
      refine sw_on F 27 rfl rfl rfl rfl rfl ?_
      refine sw_fld F 4 ⟨rfl, rfl, rfl⟩ rfl (by kernel_rfl) rfl rfl fun A F => ?_
      refine sw_on F 27 rfl rfl rfl rfl rfl ?_
      refine sw_cell F M 0 ⟨rfl, rfl, rfl⟩ rfl rfl rfl (by kernel_rfl) rfl fun A F => ?_
      refine sw_on F 27 rfl rfl rfl rfl rfl ?_
      refine sw_call0 (sameB_m _ hbl w0 lo lo' _ _ _ _ _ _ hB hBq i2 j2) F M ⟨rfl, rfl, rfl⟩ rfl rfl ?_
      rintro _ _ A w ⟨_, rfl⟩ F M
      refine sw_on F 27 rfl rfl rfl rfl rfl ?_
      refine sw_not F ⟨rfl, rfl, rfl⟩ rfl rfl fun A F => ?_
      refine sw_pickF F ⟨rfl, rfl, rfl⟩ rfl rfl rfl fun A F => ?_
      refine sw_end ?_
      show Code.wp _ _ _ _ _
      refine sw_false F rfl ?_
      refine wp_skip ?_
      show Code.wp _ _ _ _ _
      refine sw_reg ?_
      refine sw_move F ⟨rfl, rfl, rfl⟩ rfl rfl fun A F => ?_
      refine sw_add F ⟨rfl, rfl, rfl⟩ rfl rfl (by have := lie_max hA3; omega) rfl fun A F => ?_
      refine sw_asg F ⟨rfl, rfl, rfl⟩ rfl rfl fun A F => ?_
      refine sw_end ?_
      replace M := M.drop 1 rfl
      replace M := M.drop 0 rfl
      show _ ∧ _
      refine ⟨⟨j + 1, by omega, F.keep [6, 2, 3] rfl, M⟩, ?_⟩
      rw [(F.keep (N := 110) (L' := [(6, .int .i64 ((j + 1 : Nat) : Int))]) [6] rfl).2.2 6 (.int .i64 ((j + 1 : Nat) : Int)) rfl, hAj]
      simp only [intOf]
      omega
    · skip
      refine wp_exit ?_
      repeat (first | refine then_exit ?_ | refine exit_block ?_ | refine exit_pass rfl ?_)
      show Code.wp _ _ _ _ _
      refine sw_seq ?_
      refine sw_reg ?_
      refine sw_asg F ⟨rfl, rfl, rfl⟩ rfl rfl fun A F => ?_
      refine sw_end ?_
      show Code.wp _ _ _ _ _
      refine wp_ret ?_
      repeat (first | refine then_ret ?_ | refine block_ret ?_)
      exact sw_rettmp F Tryd.results6 rfl ⟨_, [], (), rfl, M.but, M.st, lie_nil _ _, rfl⟩
end Go.Proofs.YtgpjlocgkdlnlaaDoor

namespace Go.Proofs.YtgpjlocgkdlnlaaDoor
open Go.RowKit
set_option linter.unusedVariables false
set_option linter.unusedSimpArgs false

/-- What Parse gives, as values: a contract and a number. -/
def PaV (text : Key) (v : EV) (er : Int) : Prop :=
  (2048 < text.length ∧ v = ctP [] ([], [], []) ∧ er = 3) ∨
  (text.length ≤ 2048 ∧ ∃ (x : EV) (S' : ES), Rv parseM (st0 text) x S' ∧ ((S' = .error er ∧ er ≠ 0 ∧ v = ctP [] ([], [], [])) ∨ (∃ σ, S' = .ok σ ∧ er = 0 ∧ v = x)))
theorem PaV.one {text : Key} {v v' : EV} {er er' : Int} (h : PaV text v er) (k : PaV text v' er') : v = v' ∧ er = er' := by
  rcases h with ⟨h1, h2, h3⟩ | ⟨h1, x, S, h2, h3⟩
  · rcases k with ⟨k1, k2, k3⟩ | ⟨k1, _⟩
    · exact ⟨h2.trans k2.symm, h3.trans k3.symm⟩
    · omega
  · rcases k with ⟨k1, _⟩ | ⟨k1, y, T, k2, k3⟩
    · omega
    · obtain ⟨e1, e2⟩ := h2.det k2
      subst e1
      rcases h3 with ⟨rfl, h4, h5⟩ | ⟨σ, rfl, h4, h5⟩
      · rcases k3 with ⟨k3, k4, k5⟩ | ⟨τ, k3, k4, k5⟩
        · injection k3 with k3
          exact ⟨h5.trans k5.symm, k3⟩
        · cases k3
      · rcases k3 with ⟨k3, k4, k5⟩ | ⟨τ, k3, k4, k5⟩
        · cases k3
        · exact ⟨h5.trans ((e2 σ rfl).trans k5.symm), h4.trans k4.symm⟩
theorem sh_zero : ShC (ctP [] ([], [], [])) := ⟨[], [], [], [], rfl, AllP.nil, AllP.nil, AllP.nil⟩
theorem PaV.shape {text : Key} {v : EV} {er : Int} (h : PaV text v er) : ShC v := by
  rcases h with ⟨_, rfl, _⟩ | ⟨_, x, S, h2, ⟨_, _, rfl⟩ | ⟨σ, rfl, _, rfl⟩⟩
  · exact sh_zero
  · exact sh_zero
  · exact Has.rv h2 parse_has
theorem PaE.out {text : Key} {w w' : World} {e : Ending} (h : PaE text w e w') : Below w.heap.size w w' ∧ ∃ nm a1 c1 e1 a2 c2 e2 a3 c3 e3 er, e = .returned (.tuple #[.agg ((ctF nm a1 c1 e1 a2 c2 e2 a3 c3 e3).map Fld.val).toArray, .int .i64 er]) ∧ lieAll w.heap.size w' (ctF nm a1 c1 e1 a2 c2 e2 a3 c3 e3) ∧ PaV text (pvAll (ctF nm a1 c1 e1 a2 c2 e2 a3 c3 e3)) er := by
  obtain ⟨hb, h⟩ := h
  refine ⟨hb, ?_⟩
  have hz : lieAll w.heap.size w' (ctF [] none 0 [] none 0 [] none 0 []) := lie_cons trivial (lie_cons (lies_nil _ _) (lie_cons (lies_nil _ _) (lie_cons (lies_nil _ _) (lie_nil _ _))))
  rcases h with ⟨h1, rfl⟩ | ⟨h1, x, S', h2, ⟨er, he, rfl, rfl⟩ | ⟨σ, nm, a1, c1, e1, a2, c2, e2, a3, c3, e3, rfl, rfl, rfl, hl⟩⟩
  · exact ⟨[], none, 0, [], none, 0, [], none, 0, [], 3, rfl, hz, .inl ⟨h1, rfl, rfl⟩⟩
  · exact ⟨[], none, 0, [], none, 0, [], none, 0, [], er, rfl, hz, .inr ⟨h1, x, _, h2, .inl ⟨rfl, he, rfl⟩⟩⟩
  · exact ⟨nm, a1, c1, e1, a2, c2, e2, a3, c3, e3, 0, rfl, hl, .inr ⟨h1, _, _, h2, .inr ⟨σ, rfl, rfl, rfl⟩⟩⟩
theorem ct_inj {nm nm' : Key} {a1 a2 a3 b1 b2 b3 : Option Addr} {c1 c2 c3 d1 d2 d3 : Nat} {e1 e2 e3 g1 g2 g3 : List (List Fld)} (h : pvAll (ctF nm a1 c1 e1 a2 c2 e2 a3 c3 e3) = pvAll (ctF nm' b1 d1 g1 b2 d2 g2 b3 d3 g3)) : nm = nm' ∧ pvRows e1 = pvRows g1 ∧ pvRows e2 = pvRows g2 ∧ pvRows e3 = pvRows g3 := by
  have h : ([.s nm, .l (pvRows e1), .l (pvRows e2), .l (pvRows e3)] : EV) = [.s nm', .l (pvRows g1), .l (pvRows g2), .l (pvRows g3)] := h
  injection h with h1 h
  injection h with h2 h
  injection h with h3 h
  injection h with h4 h
  injection h1 with h1
  injection h2 with h2
  injection h3 with h3
  injection h4 with h4
  exact ⟨h1, h2, h3, h4⟩
theorem Mm.after {σ : Type} {X : σ → World → Prop} {T : Nat → Prop} {w0 w w' : World} {E : List Ent} {s : σ} (M : Mm X T w0 E s w) (hb : Below w.heap.size w w') : Mm X T w0 E s w' := M.own (hb.mono M.mem.le) (M.mem.hi (Hi.of_below hb))
theorem sw_extr {P : Program} {ops : Array Oper} {Q : Exit → Act → World → Prop} {a : Act} {w : World} {rest : List Oper} {o : Oper} {N : Nat} {L : List (Nat × Value)} (F : Fm N L a) {i j : Nat} {x : Operand} {vs : Array Value} {v : Value} (h : Is o (some i) (.extract x j)) (hx : opv L x = some (.tuple vs)) (hv : vs[j]? = some v) (hi : Nat.blt i N = true) (K : ∀ a', Fm N ((i, v) :: L) a' → wpList P ops Q rest a' w) : wpList P ops Q (o :: rest) a w :=
  ol_extract h.2.2 h.2.1 (F.ev hx) hv (by rw [h.1]; exact K _ (F.put hi))
set_option maxRecDepth 8000 in
set_option maxHeartbeats 3200000 in
theorem parses_any (text : Key) (w0 : World) (g0 : Gl w0) : Calls Tryd.prog 3 ([.string (str text)] : List Value).toArray w0 fun e w' => e = .returned (.bool true) ∧ Below w0.heap.size w0 w' := by
  have M := bx_begin (w0 := w0) (w := w0) (Below.refl _ _)
  refine sw_fn Tryd.func3 rfl 30 Tryd.ntmps3 rfl fun A F => ?_
  refine sw_seq (sw_reg ?_)
  refine sw_asg F ⟨rfl, rfl, rfl⟩ rfl rfl fun A F => ?_
  refine sw_end ?_
  show Code.wp _ _ _ _ _
  refine sw_seq (sw_seq (sw_reg ?_))
  refine sw_move F ⟨rfl, rfl, rfl⟩ rfl rfl fun A F => ?_
  refine sw_slen F ⟨rfl, rfl, rfl⟩ rfl Tryd.underlying9 rfl fun A F => ?_
  refine sw_gtr F ⟨rfl, rfl, rfl⟩ rfl rfl rfl fun A F => ?_
  refine sw_end ?_
  show Code.wp _ _ _ _ _
  refine sw_cond F rfl (fun hc => ?_) (fun hc => ?_)
  · refine sw_seq (sw_reg ?_)
    refine sw_asg F ⟨rfl, rfl, rfl⟩ rfl rfl fun A F => ?_
    refine sw_end ?_
    show Code.wp _ _ _ _ _
    refine wp_ret ?_
    repeat (first | refine then_ret ?_ | refine block_ret ?_)
    exact sw_rettmp F Tryd.results3 rfl ⟨rfl, M.st⟩
  refine wp_skip ?_
  show Code.wp _ _ _ _ _
  refine sw_seq (sw_reg ?_)
  refine sw_move F ⟨rfl, rfl, rfl⟩ rfl rfl fun A F => ?_
  refine sw_callR (by kernel_rfl) (parse_p text _ (g0.below M.st)) F ⟨rfl, rfl, rfl⟩ rfl rfl ?_
  intro e1 w1 h1
  obtain ⟨hb1, nm, a1, c1, l1, a2, c2, l2, a3, c3, l3, er, rfl, hl1, hv1⟩ := h1.out
  refine ⟨_, rfl, fun A F => ?_⟩
  replace M := M.ret (s' := ()) (But.of_below hb1) (M.st.trans (hb1.mono M.mem.le)) hl1
  refine sw_move F ⟨rfl, rfl, rfl⟩ rfl rfl fun A F => ?_
  refine sw_extr F ⟨rfl, rfl, rfl⟩ rfl rfl rfl fun A F => ?_
  refine sw_extr F ⟨rfl, rfl, rfl⟩ rfl rfl rfl fun A F => ?_
  refine sw_alloc F M [.string ⟨#[]⟩, .slice none 0 0, .slice none 0 0, .slice none 0 0] ⟨rfl, rfl, rfl⟩ (by kernel_rfl) rfl fun x1 A w F M => ?_
  refine sw_setAll F M 0 (us := (ctF nm a1 c1 l1 a2 c2 l2 a3 c3 l3).map Fld.val) ⟨rfl, rfl, rfl⟩ rfl rfl rfl (by kernel_rfl) rfl rfl fun w M => ?_
  simp only [List.set_cons_zero, List.set_cons_succ] at M
  refine sw_asg F ⟨rfl, rfl, rfl⟩ rfl rfl fun A F => ?_
  refine sw_end ?_
  show Code.wp _ _ _ _ _
  refine sw_seq (sw_reg ?_)
  refine sw_move F ⟨rfl, rfl, rfl⟩ rfl rfl fun A F => ?_
  refine sw_callR (by kernel_rfl) (rparse_p text _) F ⟨rfl, rfl, rfl⟩ rfl rfl ?_
  intro e2 w2 h2
  obtain ⟨hb2, nm', b1, d1, m1, b2, d2, m2, b3, d3, m3, er', rfl, hl2, hv2⟩ := h2.out
  refine ⟨_, rfl, fun A F => ?_⟩
  replace M := M.ret (s' := ()) (But.of_below hb2) (M.st.trans (hb2.mono M.mem.le)) hl2
  obtain ⟨q0, qe⟩ := hv1.one hv2
  subst qe
  obtain ⟨qn, q1, q2, q3⟩ := ct_inj q0
  subst qn
  obtain ⟨s, l, m, r, qs, s1, s2, s3⟩ := hv1.shape
  obtain ⟨_, u1, u2, u3⟩ : nm = s ∧ pvRows l1 = l ∧ pvRows l2 = m ∧ pvRows l3 = r := by
    have h : ([.s nm, .l (pvRows l1), .l (pvRows l2), .l (pvRows l3)] : EV) = [.s s, .l l, .l m, .l r] := qs
    injection h with h1 h
    injection h with h2 h
    injection h with h3 h
    injection h with h4 h
    injection h1 with h1
    injection h2 with h2
    injection h3 with h3
    injection h4 with h4
    exact ⟨h1, h2, h3, h4⟩
  subst u1 u2 u3
  clear qs hv1 hv2 h1 h2 hl1 hl2 q0
  refine sw_move F ⟨rfl, rfl, rfl⟩ rfl rfl fun A F => ?_
  refine sw_extr F ⟨rfl, rfl, rfl⟩ rfl rfl rfl fun A F => ?_
  refine sw_extr F ⟨rfl, rfl, rfl⟩ rfl rfl rfl fun A F => ?_
  refine sw_alloc F M [.string ⟨#[]⟩, .slice none 0 0, .slice none 0 0, .slice none 0 0] ⟨rfl, rfl, rfl⟩ (by kernel_rfl) rfl fun x2 A w F M => ?_
  refine sw_setAll F M 0 (us := (ctF nm b1 d1 m1 b2 d2 m2 b3 d3 m3).map Fld.val) ⟨rfl, rfl, rfl⟩ rfl rfl rfl (by kernel_rfl) rfl rfl fun w M => ?_
  simp only [List.set_cons_zero, List.set_cons_succ] at M
  refine sw_asg F ⟨rfl, rfl, rfl⟩ rfl rfl fun A F => ?_
  refine sw_end ?_
  show Code.wp _ _ _ _ _
  refine sw_seq (sw_reg ?_)
  refine sw_all F M 2 ⟨rfl, rfl, rfl⟩ rfl rfl (by kernel_rfl) (by kernel_rfl) rfl fun A F => ?_
  refine sw_all F M 0 ⟨rfl, rfl, rfl⟩ rfl rfl (by kernel_rfl) (by kernel_rfl) rfl fun A F => ?_
  have L1 := M.mem.val (k := 3) rfl
  have L2 := M.mem.val (k := 1) rfl
  have C := (sameC_m w (nm := nm) (L1 (.l a1 c1 l1) (by simp [ctF])) (L1 (.l a2 c2 l2) (by simp [ctF])) (L1 (.l a3 c3 l3) (by simp [ctF])) (L2 (.l b1 d1 m1) (by simp [ctF])) (L2 (.l b2 d2 m2) (by simp [ctF])) (L2 (.l b3 d3 m3) (by simp [ctF])) q1 q2 q3 s1 s2 s3).2 w (Below.refl _ _) (fun _ q => q.elim)
  refine sw_callR (by kernel_rfl) C F ⟨rfl, rfl, rfl⟩ rfl rfl ?_
  rintro e3 w3 ⟨v, fs, s', rfl, B3, x3, _, rfl⟩
  refine ⟨_, rfl, fun A F => ?_⟩
  have X3 : Below w0.heap.size w0 w3 := M.st.trans (Below.mono (x3 : Below w.heap.size w w3) M.mem.le)
  refine sw_asg F ⟨rfl, rfl, rfl⟩ rfl rfl fun A F => ?_
  refine sw_end ?_
  show Code.wp _ _ _ _ _
  refine sw_seq (sw_reg ?_)
  refine sw_move F ⟨rfl, rfl, rfl⟩ rfl rfl fun A F => ?_
  refine sw_move F ⟨rfl, rfl, rfl⟩ rfl rfl fun A F => ?_
  refine sw_eql F ⟨rfl, rfl, rfl⟩ rfl rfl rfl fun A F => ?_
  rw [show (er == er) = true from beq_self_eq_true er] at F
  refine sw_move F ⟨rfl, rfl, rfl⟩ rfl rfl fun A F => ?_
  refine sw_on F 3 rfl rfl rfl rfl rfl ?_
  refine sw_move F ⟨rfl, rfl, rfl⟩ rfl rfl fun A F => ?_
  refine sw_pickT F ⟨rfl, rfl, rfl⟩ rfl rfl rfl fun A F => ?_
  refine sw_asg F ⟨rfl, rfl, rfl⟩ rfl rfl fun A F => ?_
  refine sw_end ?_
  show Code.wp _ _ _ _ _
  refine wp_ret ?_
  exact sw_rettmp F Tryd.results3 rfl ⟨rfl, X3⟩
end Go.Proofs.YtgpjlocgkdlnlaaDoor
