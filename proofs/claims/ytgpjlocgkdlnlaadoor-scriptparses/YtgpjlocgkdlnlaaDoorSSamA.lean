/- Parameters and expressions of the same values are the same. -/
import Derived.Test.YtgpjlocgkdlnlaaDoorM49
namespace Go.Proofs.YtgpjlocgkdlnlaaDoor
open Go.RowKit
set_option linter.unusedVariables false
set_option linter.unusedSimpArgs false

set_option maxRecDepth 8000 in
set_option maxHeartbeats 3200000 in
theorem sameP_m (w0 : World) {lo lo' : Nat} {la lb : Option Addr} {lc ld : Nat} {es gs : List (List Fld)} (hA : (Fld.l la lc es).lies lo w0) (hB : (Fld.l lb ld gs).lies lo' w0) (he : pvRows es = pvRows gs) (sh : ∀ x ∈ pvRows es, ShP x) : Meth Tryd.prog (Bx w0) (fun _ => False) 15 [.slice la es.length lc, .slice lb gs.length ld] () (fun v _ _ => v = .bool true) := by
  refine ⟨by kernel_rfl, fun wO R _ => ?_⟩
  have M := bx_begin R
  refine sw_fn Tryd.func15 rfl 26 Tryd.ntmps15 rfl fun A F => ?_
  refine sw_seq ?_
  refine sw_reg ?_
  refine sw_asg F ⟨rfl, rfl, rfl⟩ rfl rfl fun A F => ?_
  refine sw_end ?_
  show Code.wp _ _ _ _ _
  refine sw_seq ?_
  refine sw_seq ?_
  refine sw_reg ?_
  refine sw_move F ⟨rfl, rfl, rfl⟩ rfl rfl fun A F => ?_
  refine sw_len F ⟨rfl, rfl, rfl⟩ rfl (Tryd.underlying22) rfl fun A F => ?_
  refine sw_move F ⟨rfl, rfl, rfl⟩ rfl rfl fun A F => ?_
  refine sw_len F ⟨rfl, rfl, rfl⟩ rfl (Tryd.underlying22) rfl fun A F => ?_
  refine sw_nn (by rw [len_of he]) F ⟨rfl, rfl, rfl⟩ rfl rfl rfl fun A F => ?_
  refine sw_end ?_
  show Code.wp _ _ _ _ _
  refine sw_false F rfl ?_
  refine wp_skip ?_
  show Code.wp _ _ _ _ _
  refine sw_seq ?_
  refine sw_seq ?_
  refine sw_reg ?_
  refine sw_asg F ⟨rfl, rfl, rfl⟩ rfl rfl fun A F => ?_
  refine sw_end ?_
  show Code.wp _ _ _ _ _
  refine wp_block ?_
  refine wp_loop (fun A w => ∃ k : Nat, k ≤ es.length ∧ Fm 26 [(5, .int .i64 (k : Int)), (0, .slice la es.length lc), (1, .slice lb gs.length ld)] A ∧ Mm (Bx w0) (fun _ => False) wO [] () w) (fun A _ => es.length - (intOf (A.eval (.tmp 5))).toNat) ?_ ?_
  · exact ⟨0, Nat.zero_le _, F.keep [5, 0, 1] rfl, M⟩
  repeat clear F
  repeat clear M
  rintro A w ⟨k, hlk, F, M⟩
  have hAk : A.eval (.tmp 5) = .int .i64 (k : Int) := F.2.2 5 _ rfl
  refine sw_seq ?_
  refine sw_seq ?_
  refine sw_reg ?_
  refine sw_move F ⟨rfl, rfl, rfl⟩ rfl rfl fun A F => ?_
  refine sw_move F ⟨rfl, rfl, rfl⟩ rfl rfl fun A F => ?_
  refine sw_len F ⟨rfl, rfl, rfl⟩ rfl (Tryd.underlying22) rfl fun A F => ?_
  refine sw_lss F ⟨rfl, rfl, rfl⟩ rfl rfl rfl fun A F => ?_
  refine sw_end ?_
  show Code.wp _ _ _ _ _
  refine sw_cond F rfl (fun hck => ?_) (fun hck => ?_)
  · skip
    have hkk : k < es.length := by have := of_decide_eq_true hck; omega
    obtain ⟨bk, ok, dk, rfl, hdk, rak, lik, hmk⟩ := el_at hA (sz_of (n := 2) fun x hx => by obtain ⟨s, n, rfl⟩ := sh x hx; rfl) hkk
    obtain ⟨bkq, okq, dkq, rfl, hdkq, rbk, likq, hmkq⟩ := el_at hB (sz_of (n := 2) fun x hx => by obtain ⟨s, n, rfl⟩ := sh x (by rw [he]; exact hx); rfl) (k := k) (by rw [len_of he]; exact hkk)
    have hqk := el_same he hdk hdkq
    obtain ⟨s, n, hs⟩ := sh _ hmk
    have e1 := inv_P hs
    have e2 := inv_P (hqk.trans hs)
    subst e1 e2
    refine wp_skip ?_
    show Code.wp _ _ _ _ _
    refine sw_seq ?_
    refine wp_block ?_
    refine sw_seq ?_
    refine wp_region_held (S := fun w' => Bx w0 () w') (by kernel_rfl) ?_
    show wpAnyH _ _ _ _ _ _ _ _ w.drew
    replace M := M.drew
    have hS : Bx w0 () w.drew := M.st
    refine sd_move F 0 rfl ⟨rfl, rfl, rfl⟩ rfl (by kernel_rfl) (by kernel_rfl) (by kernel_rfl) (fun _ _ _ h => h) rfl hS fun A F => ?_
    refine sd_move F 1 rfl ⟨rfl, rfl, rfl⟩ rfl (by kernel_rfl) (by kernel_rfl) (by kernel_rfl) (fun _ _ _ h => h) rfl hS fun A F => ?_
    refine sd_at F 2 2 rfl ⟨rfl, rfl, rfl⟩ rfl rfl hkk Tryd.underlying22 (by kernel_rfl) (by kernel_rfl) (by kernel_rfl) (by kernel_rfl) (fun _ _ _ h => h) rfl hS fun A F => ?_
    refine sd_rng F 3 (cs := [.string (str s), .int .i64 n]) rfl ⟨rfl, rfl, rfl⟩ rfl (by kernel_rfl) (by kernel_rfl) (fun w h => rak w h) (by kernel_rfl) (by kernel_rfl) (by kernel_rfl) (fun _ _ _ h => h) rfl hS fun A F => ?_
    refine sd_move F 4 rfl ⟨rfl, rfl, rfl⟩ rfl (by kernel_rfl) (by kernel_rfl) (by kernel_rfl) (fun _ _ _ h => h) rfl hS fun A F => ?_
    refine sd_move F 5 rfl ⟨rfl, rfl, rfl⟩ rfl (by kernel_rfl) (by kernel_rfl) (by kernel_rfl) (fun _ _ _ h => h) rfl hS fun A F => ?_
    refine sd_at F 6 2 rfl ⟨rfl, rfl, rfl⟩ rfl rfl (by rw [len_of he]; exact hkk) Tryd.underlying22 (by kernel_rfl) (by kernel_rfl) (by kernel_rfl) (by kernel_rfl) (fun _ _ _ h => h) rfl hS fun A F => ?_
    refine sd_rng F 7 (cs := [.string (str s), .int .i64 n]) rfl ⟨rfl, rfl, rfl⟩ rfl (by kernel_rfl) (by kernel_rfl) (fun w h => rbk w h) (by kernel_rfl) (by kernel_rfl) (by kernel_rfl) (fun _ _ _ h => h) rfl hS fun A F => ?_
    refine sd_val (v := .bool false) F 8 rfl (by kernel_rfl) (by kernel_rfl) (by kernel_rfl) (fun _ _ _ h => h) rfl rfl rfl (fun _ _ => run_nP rfl (F.ev rfl) (F.ev rfl)) hS fun A F => ?_
    clear hS
    refine wpAnyH_done (by kernel_rfl) ?_ _
    show Code.wp _ _ _ _ _
    refine sw_false F rfl ?_
    refine wp_skip ?_
    show Code.wp _ _ _ _ _
    refine sw_reg ?_
    refine sw_move F ⟨rfl, rfl, rfl⟩ rfl rfl fun A F => ?_
    refine sw_add F ⟨rfl, rfl, rfl⟩ rfl rfl (by have := lie_max hA; omega) rfl fun A F => ?_
    refine sw_asg F ⟨rfl, rfl, rfl⟩ rfl rfl fun A F => ?_
    refine sw_end ?_
    show _ ∧ _
    refine ⟨⟨k + 1, by omega, F.keep [5, 0, 1] rfl, M⟩, ?_⟩
    rw [(F.keep (N := 26) (L' := [(5, .int .i64 ((k + 1 : Nat) : Int))]) [5] rfl).2.2 5 (.int .i64 ((k + 1 : Nat) : Int)) rfl, hAk]
    simp only [intOf]
    omega
  · skip
    refine wp_exit ?_
    repeat (first | refine then_exit ?_ | refine exit_block ?_ | refine exit_pass rfl ?_)
    show Code.wp _ _ _ _ _
    refine sw_seq ?_
    refine sw_reg ?_
    refine sw_asg F ⟨rfl, rfl, rfl⟩ rfl rfl fun A F => ?_
    refine sw_end ?_
    show Code.wp _ _ _ _ _
    refine wp_ret ?_
    repeat (first | refine then_ret ?_ | refine block_ret ?_)
    exact sw_rettmp F Tryd.results15 rfl ⟨_, [], (), rfl, M.but, M.st, lie_nil _ _, rfl⟩
theorem ShE.out {x : EV} (h : ShE x) : ∃ op n s es, x = exP op n s es ∧ ShL es := by
  cases h with
  | mk op n s es h => exact ⟨op, n, s, es, rfl, h⟩
theorem ShL.four {es : List (List Fld)} (h : ShL (pvRows es)) : ∀ d ∈ es, d.length = 4 := sz_of (n := 4) fun x hx => by
  obtain ⟨op, n, s, es, rfl, _⟩ := (h x hx).out
  rfl
set_option maxRecDepth 8000 in
set_option maxHeartbeats 3200000 in
theorem sameE_m : ∀ (v : EV), ShE v → ∀ (w0 : World) (lo lo' : Nat) (d d' : List Fld), pvAll d = v → pvAll d' = v → lieAll lo w0 d → lieAll lo' w0 d' → Meth Tryd.prog (Bx w0) (fun _ => False) 36 [.agg (d.map Fld.val).toArray, .agg (d'.map Fld.val).toArray] () (fun v _ _ => v = .bool true) := by
  intro v hv
  induction hv with
  | mk op n s es hes ih =>
    intro w0 lo lo' d d' hd hd' hl hl'
    obtain ⟨la, lc, e, rfl, h1⟩ := inv_E hd
    obtain ⟨lb, ld, f, rfl, h2⟩ := inv_E hd'
    have hA : (Fld.l la lc e).lies lo w0 := hl _ (by simp)
    have hB : (Fld.l lb ld f).lies lo' w0 := hl' _ (by simp)
    have he : pvRows e = pvRows f := h1.trans h2.symm
    have hsA : ∀ d ∈ e, d.length = 4 := ShL.four (by rw [h1]; exact hes)
    have hsB : ∀ d ∈ f, d.length = 4 := ShL.four (by rw [h2]; exact hes)
    clear hd hd' hl hl'
    refine ⟨by kernel_rfl, fun wO R _ => ?_⟩
    have M := bx_begin R
    refine sw_fn Tryd.func36 rfl 53 Tryd.ntmps36 rfl fun A F => ?_
    refine sw_seq ?_
    refine sw_reg ?_
    refine sw_box F M [.int .i64 op, .int .i64 n, .string (str s), .slice la e.length lc] ⟨rfl, rfl, rfl⟩ rfl rfl rfl fun x1 A w F M => ?_
    refine sw_box F M [.int .i64 op, .int .i64 n, .string (str s), .slice lb f.length ld] ⟨rfl, rfl, rfl⟩ rfl rfl rfl fun x2 A w F M => ?_
    refine sw_asg F ⟨rfl, rfl, rfl⟩ rfl rfl fun A F => ?_
    refine sw_end ?_
    show Code.wp _ _ _ _ _
    refine sw_seq ?_
    refine sw_seq ?_
    refine sw_reg ?_
    refine sw_fld F 0 ⟨rfl, rfl, rfl⟩ rfl (by kernel_rfl) rfl rfl fun A F => ?_
    refine sw_cell F M 1 ⟨rfl, rfl, rfl⟩ rfl rfl rfl (by kernel_rfl) rfl fun A F => ?_
    refine sw_fld F 0 ⟨rfl, rfl, rfl⟩ rfl (by kernel_rfl) rfl rfl fun A F => ?_
    refine sw_cell F M 0 ⟨rfl, rfl, rfl⟩ rfl rfl rfl (by kernel_rfl) rfl fun A F => ?_
    refine sw_ni F ⟨rfl, rfl, rfl⟩ rfl rfl rfl fun A F => ?_
    refine sw_move F ⟨rfl, rfl, rfl⟩ rfl rfl fun A F => ?_
    refine sw_on F 5 rfl rfl rfl rfl rfl ?_
    refine sw_fld F 1 ⟨rfl, rfl, rfl⟩ rfl (by kernel_rfl) rfl rfl fun A F => ?_
    refine sw_on F 5 rfl rfl rfl rfl rfl ?_
    refine sw_cell F M 1 ⟨rfl, rfl, rfl⟩ rfl rfl rfl (by kernel_rfl) rfl fun A F => ?_
    refine sw_on F 5 rfl rfl rfl rfl rfl ?_
    refine sw_fld F 1 ⟨rfl, rfl, rfl⟩ rfl (by kernel_rfl) rfl rfl fun A F => ?_
    refine sw_on F 5 rfl rfl rfl rfl rfl ?_
    refine sw_cell F M 0 ⟨rfl, rfl, rfl⟩ rfl rfl rfl (by kernel_rfl) rfl fun A F => ?_
    refine sw_on F 5 rfl rfl rfl rfl rfl ?_
    refine sw_ni F ⟨rfl, rfl, rfl⟩ rfl rfl rfl fun A F => ?_
    refine sw_pickF F ⟨rfl, rfl, rfl⟩ rfl rfl rfl fun A F => ?_
    refine sw_move F ⟨rfl, rfl, rfl⟩ rfl rfl fun A F => ?_
    refine sw_on F 12 rfl rfl rfl rfl rfl ?_
    refine sw_fld F 2 ⟨rfl, rfl, rfl⟩ rfl (by kernel_rfl) rfl rfl fun A F => ?_
    refine sw_on F 12 rfl rfl rfl rfl rfl ?_
    refine sw_cell F M 1 ⟨rfl, rfl, rfl⟩ rfl rfl rfl (by kernel_rfl) rfl fun A F => ?_
    refine sw_on F 12 rfl rfl rfl rfl rfl ?_
    refine sw_fld F 2 ⟨rfl, rfl, rfl⟩ rfl (by kernel_rfl) rfl rfl fun A F => ?_
    refine sw_on F 12 rfl rfl rfl rfl rfl ?_
    refine sw_cell F M 0 ⟨rfl, rfl, rfl⟩ rfl rfl rfl (by kernel_rfl) rfl fun A F => ?_
    refine sw_on F 12 rfl rfl rfl rfl rfl ?_
    refine sw_ns F ⟨rfl, rfl, rfl⟩ rfl rfl rfl fun A F => ?_
    refine sw_pickF F ⟨rfl, rfl, rfl⟩ rfl rfl rfl fun A F => ?_
    refine sw_move F ⟨rfl, rfl, rfl⟩ rfl rfl fun A F => ?_
    refine sw_on F 19 rfl rfl rfl rfl rfl ?_
    refine sw_fld F 3 ⟨rfl, rfl, rfl⟩ rfl (by kernel_rfl) rfl rfl fun A F => ?_
    refine sw_on F 19 rfl rfl rfl rfl rfl ?_
    refine sw_cell F M 1 ⟨rfl, rfl, rfl⟩ rfl rfl rfl (by kernel_rfl) rfl fun A F => ?_
    refine sw_on F 19 rfl rfl rfl rfl rfl ?_
    refine sw_len F ⟨rfl, rfl, rfl⟩ rfl (Tryd.underlying68) rfl fun A F => ?_
    refine sw_on F 19 rfl rfl rfl rfl rfl ?_
    refine sw_fld F 3 ⟨rfl, rfl, rfl⟩ rfl (by kernel_rfl) rfl rfl fun A F => ?_
    refine sw_on F 19 rfl rfl rfl rfl rfl ?_
    refine sw_cell F M 0 ⟨rfl, rfl, rfl⟩ rfl rfl rfl (by kernel_rfl) rfl fun A F => ?_
    refine sw_on F 19 rfl rfl rfl rfl rfl ?_
    refine sw_len F ⟨rfl, rfl, rfl⟩ rfl (Tryd.underlying68) rfl fun A F => ?_
    refine sw_on F 19 rfl rfl rfl rfl rfl ?_
    refine sw_nn (by rw [len_of he]) F ⟨rfl, rfl, rfl⟩ rfl rfl rfl fun A F => ?_
    refine sw_pickF F ⟨rfl, rfl, rfl⟩ rfl rfl rfl fun A F => ?_
    refine sw_end ?_
    show Code.wp _ _ _ _ _
    refine sw_false F rfl ?_
    refine wp_skip ?_
    show Code.wp _ _ _ _ _
    refine sw_seq ?_
    refine sw_seq ?_
    refine sw_reg ?_
    refine sw_asg F ⟨rfl, rfl, rfl⟩ rfl rfl fun A F => ?_
    refine sw_end ?_
    show Code.wp _ _ _ _ _
    refine wp_block ?_
    refine wp_loop (fun A w => ∃ k : Nat, k ≤ e.length ∧ Fm 53 [(5, .int .i64 (k : Int)), (2, .pointer (some ⟨x1, 0, none⟩)), (3, .pointer (some ⟨x2, 0, none⟩))] A ∧ Mm (Bx w0) (fun _ => False) wO [.box x2 [.int .i64 op, .int .i64 n, .string (str s), .slice lb f.length ld] 73, .box x1 [.int .i64 op, .int .i64 n, .string (str s), .slice la e.length lc] 73] () w) (fun A _ => e.length - (intOf (A.eval (.tmp 5))).toNat) ?_ ?_
    · exact ⟨0, Nat.zero_le _, F.keep [5, 2, 3] rfl, M⟩
    repeat clear F
    repeat clear M
    rintro A w ⟨k, hlk, F, M⟩
    have hAk : A.eval (.tmp 5) = .int .i64 (k : Int) := F.2.2 5 _ rfl
    refine sw_seq ?_
    refine sw_seq ?_
    refine sw_reg ?_
    refine sw_move F ⟨rfl, rfl, rfl⟩ rfl rfl fun A F => ?_
    refine sw_fld F 3 ⟨rfl, rfl, rfl⟩ rfl (by kernel_rfl) rfl rfl fun A F => ?_
    refine sw_cell F M 1 ⟨rfl, rfl, rfl⟩ rfl rfl rfl (by kernel_rfl) rfl fun A F => ?_
    refine sw_len F ⟨rfl, rfl, rfl⟩ rfl (Tryd.underlying68) rfl fun A F => ?_
    refine sw_lss F ⟨rfl, rfl, rfl⟩ rfl rfl rfl fun A F => ?_
    refine sw_end ?_
    show Code.wp _ _ _ _ _
    refine sw_cond F rfl (fun hck => ?_) (fun hck => ?_)
    · skip
      have hkk : k < e.length := by have := of_decide_eq_true hck; omega
      obtain ⟨bk, ok, dk, rfl, hdk, rak, lik, hmk⟩ := el_at hA hsA hkk
      obtain ⟨bkq, okq, dkq, rfl, hdkq, rbk, likq, hmkq⟩ := el_at hB hsB (k := k) (by rw [len_of he]; exact hkk)
      have hqk := el_same he hdk hdkq
      have hm2 : pvAll dk ∈ es := by rw [← h1]; exact hmk
      obtain ⟨opk, nk, sk, esk, hek, _⟩ := (hes _ hm2).out
      obtain ⟨lak, lck, ek, e1, _⟩ := inv_E hek
      obtain ⟨lbk, ldk, fk, e2, _⟩ := inv_E (hqk.trans hek)
      subst e1 e2
      refine wp_skip ?_
      show Code.wp _ _ _ _ _
      refine sw_seq ?_
      refine wp_block ?_
      refine sw_seq ?_
      refine wp_region_held (S := fun w' => w'.cell? ⟨x1, 3, none⟩ = some (.slice (some ⟨bk, ok, none⟩) e.length lc) ∧ w'.cell? ⟨x2, 3, none⟩ = some (.slice (some ⟨bkq, okq, none⟩) f.length ld) ∧ Bx w0 () w') (by kernel_rfl) ?_
      show wpAnyH _ _ _ _ _ _ _ _ w.drew
      replace M := M.drew
      have hS : w.drew.cell? ⟨x1, 3, none⟩ = some (.slice (some ⟨bk, ok, none⟩) e.length lc) ∧ w.drew.cell? ⟨x2, 3, none⟩ = some (.slice (some ⟨bkq, okq, none⟩) f.length ld) ∧ Bx w0 () w.drew := ⟨M.cell 1 rfl rfl, M.cell 0 rfl rfl, M.st⟩
      refine sd_fld F 0 3 rfl ⟨rfl, rfl, rfl⟩ rfl (by kernel_rfl) rfl (by kernel_rfl) (by kernel_rfl) (by kernel_rfl) (fun _ _ _ h => h) rfl hS fun A F => ?_
      refine sd_cell F 1 rfl ⟨rfl, rfl, rfl⟩ rfl (by kernel_rfl) (fun _ h => h.1) (by kernel_rfl) (by kernel_rfl) (by kernel_rfl) (fun _ _ _ h => h) rfl hS fun A F => ?_
      refine sd_move F 2 rfl ⟨rfl, rfl, rfl⟩ rfl (by kernel_rfl) (by kernel_rfl) (by kernel_rfl) (fun _ _ _ h => h) rfl hS fun A F => ?_
      refine sd_at F 3 4 rfl ⟨rfl, rfl, rfl⟩ rfl rfl hkk Tryd.underlying68 (by kernel_rfl) (by kernel_rfl) (by kernel_rfl) (by kernel_rfl) (fun _ _ _ h => h) rfl hS fun A F => ?_
      refine sd_rng F 4 (cs := [.int .i64 opk, .int .i64 nk, .string (str sk), .slice lak ek.length lck]) rfl ⟨rfl, rfl, rfl⟩ rfl (by kernel_rfl) (by kernel_rfl) (fun w h => rak w h.2.2) (by kernel_rfl) (by kernel_rfl) (by kernel_rfl) (fun _ _ _ h => h) rfl hS fun A F => ?_
      refine sd_fld F 5 3 rfl ⟨rfl, rfl, rfl⟩ rfl (by kernel_rfl) rfl (by kernel_rfl) (by kernel_rfl) (by kernel_rfl) (fun _ _ _ h => h) rfl hS fun A F => ?_
      refine sd_cell F 6 rfl ⟨rfl, rfl, rfl⟩ rfl (by kernel_rfl) (fun _ h => h.2.1) (by kernel_rfl) (by kernel_rfl) (by kernel_rfl) (fun _ _ _ h => h) rfl hS fun A F => ?_
      refine sd_move F 7 rfl ⟨rfl, rfl, rfl⟩ rfl (by kernel_rfl) (by kernel_rfl) (by kernel_rfl) (fun _ _ _ h => h) rfl hS fun A F => ?_
      refine sd_at F 8 4 rfl ⟨rfl, rfl, rfl⟩ rfl rfl (by rw [len_of he]; exact hkk) Tryd.underlying68 (by kernel_rfl) (by kernel_rfl) (by kernel_rfl) (by kernel_rfl) (fun _ _ _ h => h) rfl hS fun A F => ?_
      refine sd_rng F 9 (cs := [.int .i64 opk, .int .i64 nk, .string (str sk), .slice lbk fk.length ldk]) rfl ⟨rfl, rfl, rfl⟩ rfl (by kernel_rfl) (by kernel_rfl) (fun w h => rbk w h.2.2) (by kernel_rfl) (by kernel_rfl) (by kernel_rfl) (fun _ _ _ h => h) rfl hS fun A F => ?_
      clear hS
      refine sd_one 10 rfl (by kernel_rfl) rfl ?_
      refine sw_call0 (ih _ hm2 w0 lo lo' _ _ (Eq.refl _) hqk lik likq) F M ⟨rfl, rfl, rfl⟩ rfl rfl ?_
      rintro _ _ A w ⟨_, rfl⟩ F M
      have hS : w.cell? ⟨x1, 3, none⟩ = some (.slice (some ⟨bk, ok, none⟩) e.length lc) ∧ w.cell? ⟨x2, 3, none⟩ = some (.slice (some ⟨bkq, okq, none⟩) f.length ld) ∧ Bx w0 () w := ⟨M.cell 1 rfl rfl, M.cell 0 rfl rfl, M.st⟩
      refine sw_end ⟨hS, ?_⟩
      refine sd_one 11 rfl (by kernel_rfl) rfl ?_
      refine sw_not F ⟨rfl, rfl, rfl⟩ rfl rfl fun A F => ?_
      refine sw_end ⟨hS, ?_⟩
      clear hS
      refine wpAnyH_done (by kernel_rfl) ?_ _
      show Code.wp _ _ _ _ _
      refine sw_false F rfl ?_
      refine wp_skip ?_
      show Code.wp _ _ _ _ _
      refine sw_reg ?_
      refine sw_move F ⟨rfl, rfl, rfl⟩ rfl rfl fun A F => ?_
      refine sw_add F ⟨rfl, rfl, rfl⟩ rfl rfl (by have := lie_max hA; omega) rfl fun A F => ?_
      refine sw_asg F ⟨rfl, rfl, rfl⟩ rfl rfl fun A F => ?_
      refine sw_end ?_
      show _ ∧ _
      refine ⟨⟨k + 1, by omega, F.keep [5, 2, 3] rfl, M⟩, ?_⟩
      rw [(F.keep (N := 53) (L' := [(5, .int .i64 ((k + 1 : Nat) : Int))]) [5] rfl).2.2 5 (.int .i64 ((k + 1 : Nat) : Int)) rfl, hAk]
      simp only [intOf]
      omega
    · skip
      refine wp_exit ?_
      repeat (first | refine then_exit ?_ | refine exit_block ?_ | refine exit_pass rfl ?_)
      show Code.wp _ _ _ _ _
      refine sw_seq ?_
      refine sw_reg ?_
      refine sw_asg F ⟨rfl, rfl, rfl⟩ rfl rfl fun A F => ?_
      refine sw_end ?_
      show Code.wp _ _ _ _ _
      refine wp_ret ?_
      repeat (first | refine then_ret ?_ | refine block_ret ?_)
      exact sw_rettmp F Tryd.results36 rfl ⟨_, [], (), rfl, M.but, M.st, lie_nil _ _, rfl⟩
end Go.Proofs.YtgpjlocgkdlnlaaDoor
