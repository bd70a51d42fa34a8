/- Blocks of the same values are the same. -/
import Derived.Test.YtgpjlocgkdlnlaaDoorSSamA
namespace Go.Proofs.YtgpjlocgkdlnlaaDoor
open Go.RowKit
set_option linter.unusedVariables false
set_option linter.unusedSimpArgs false

/-- Blocks of the same values are the same. -/
def SB (l : List EV) : Prop := ∀ (w0 : World) (lo lo' : Nat) (la lb : Option Addr) (lc ld : Nat) (es gs : List (List Fld)), (Fld.l la lc es).lies lo w0 → (Fld.l lb ld gs).lies lo' w0 → pvRows es = l → pvRows gs = l → Meth Tryd.prog (Bx w0) (fun _ => False) 16 [.slice la es.length lc, .slice lb gs.length ld] () (fun v _ _ => v = .bool true)
set_option maxRecDepth 8000 in
set_option maxHeartbeats 3200000 in
theorem sameB_of (l : List EV) (H : ∀ x ∈ l, ∃ k nm al ca ty es bs ls, x = stP k nm al ca ty es bs ls ∧ ShL es ∧ SB bs ∧ SB ls) : SB l := by
  intro w0 lo lo' la lb lc ld es gs hA hB h1 h2
  have he : pvRows es = pvRows gs := h1.trans h2.symm
  have hsA : ∀ d ∈ es, d.length = 8 := sz_of (n := 8) fun x hx => by obtain ⟨_, _, _, _, _, _, _, _, rfl, _⟩ := H x (by rw [← h1]; exact hx); rfl
  have hsB : ∀ d ∈ gs, d.length = 8 := sz_of (n := 8) fun x hx => by obtain ⟨_, _, _, _, _, _, _, _, rfl, _⟩ := H x (by rw [← h2]; exact hx); rfl
  refine ⟨by kernel_rfl, fun wO R _ => ?_⟩
  have M := bx_begin R
  refine sw_fn Tryd.func16 rfl 103 Tryd.ntmps16 rfl fun A F => ?_
  refine sw_seq ?_
  refine sw_reg ?_
  refine sw_asg F ⟨rfl, rfl, rfl⟩ rfl rfl fun A F => ?_
  refine sw_end ?_
  show Code.wp _ _ _ _ _
  refine sw_seq ?_
  refine sw_seq ?_
  refine sw_reg ?_
  refine sw_move F ⟨rfl, rfl, rfl⟩ rfl rfl fun A F => ?_
  refine sw_len F ⟨rfl, rfl, rfl⟩ rfl (Tryd.underlying49) rfl fun A F => ?_
  refine sw_move F ⟨rfl, rfl, rfl⟩ rfl rfl fun A F => ?_
  refine sw_len F ⟨rfl, rfl, rfl⟩ rfl (Tryd.underlying49) rfl fun A F => ?_
  refine sw_nn (by rw [len_of he]) F ⟨rfl, rfl, rfl⟩ rfl rfl rfl fun A F => ?_
  refine sw_end ?_
  show Code.wp _ _ _ _ _
  refine sw_false F rfl ?_
  refine wp_skip ?_
  show Code.wp _ _ _ _ _
  refine sw_seq ?_
  refine sw_seq ?_
  refine sw_reg ?_
  refine sw_asg F ⟨rfl, rfl, rfl⟩ rfl rfl fun A F => ?_
  refine sw_end ?_
  show Code.wp _ _ _ _ _
  refine wp_block ?_
  refine wp_loop (fun A w => ∃ k : Nat, k ≤ es.length ∧ Fm 103 [(5, .int .i64 (k : Int)), (0, .slice la es.length lc), (1, .slice lb gs.length ld)] A ∧ Mm (Bx w0) (fun _ => False) wO [] () w) (fun A _ => es.length - (intOf (A.eval (.tmp 5))).toNat) ?_ ?_
  · exact ⟨0, Nat.zero_le _, F.keep [5, 0, 1] rfl, M⟩
  repeat clear F
  repeat clear M
  rintro A w ⟨k, hlk, F, M⟩
  have hAk : A.eval (.tmp 5) = .int .i64 (k : Int) := F.2.2 5 _ rfl
  refine sw_seq ?_
  refine sw_seq ?_
  refine sw_reg ?_
  refine sw_move F ⟨rfl, rfl, rfl⟩ rfl rfl fun A F => ?_
  refine sw_move F ⟨rfl, rfl, rfl⟩ rfl rfl fun A F => ?_
  refine sw_len F ⟨rfl, rfl, rfl⟩ rfl (Tryd.underlying49) rfl fun A F => ?_
  refine sw_lss F ⟨rfl, rfl, rfl⟩ rfl rfl rfl fun A F => ?_
  refine sw_end ?_
  show Code.wp _ _ _ _ _
  refine sw_cond F rfl (fun hck => ?_) (fun hck => ?_)
  · skip
    have hkk : k < es.length := by have := of_decide_eq_true hck; omega
    obtain ⟨bk, ok, dk, rfl, hdk, rak, lik, hmk⟩ := el_at hA hsA hkk
    obtain ⟨bkq, okq, dkq, rfl, hdkq, rbk, likq, hmkq⟩ := el_at hB hsB (k := k) (by rw [len_of he]; exact hkk)
    have hqk := el_same he hdk hdkq
    have hm2 : pvAll dk ∈ l := by rw [← h1]; exact hmk
    obtain ⟨kk, nm, al, ca, ty, xs, ys, zs, hek, hxs, hys, hzs⟩ := H _ hm2
    obtain ⟨ea, ec, e, ba, bc, bb, za, zc, zz, e1, i1, i2, i3⟩ := inv_S hek
    obtain ⟨eaq, ecq, eq, baq, bcq, bbq, zaq, zcq, zzq, e2, j1, j2, j3⟩ := inv_S (hqk.trans hek)
    subst e1 e2
    have he2 : pvRows e = pvRows eq := i1.trans j1.symm
    have hsA2 : ∀ d ∈ e, d.length = 4 := ShL.four (by rw [i1]; exact hxs)
    have hsB2 : ∀ d ∈ eq, d.length = 4 := ShL.four (by rw [j1]; exact hxs)
    have hA2 : (Fld.l ea ec e).lies lo w0 := lik _ (by simp)
    have hB2 : (Fld.l eaq ecq eq).lies lo' w0 := likq _ (by simp)
    have hA3 : (Fld.l ba bc bb).lies lo w0 := lik _ (by simp)
    have hB3 : (Fld.l baq bcq bbq).lies lo' w0 := likq _ (by simp)
    have hA4 : (Fld.l za zc zz).lies lo w0 := lik _ (by simp)
    have hB4 : (Fld.l zaq zcq zzq).lies lo' w0 := likq _ (by simp)
    clear hek hqk hm2 hmk hmkq lik likq
    refine wp_skip ?_
    show Code.wp _ _ _ _ _
    refine sw_seq ?_
    refine wp_block ?_
    refine sw_seq ?_
    refine sw_reg ?_
    refine sw_move F ⟨rfl, rfl, rfl⟩ rfl rfl fun A F => ?_
    refine sw_move F ⟨rfl, rfl, rfl⟩ rfl rfl fun A F => ?_
    refine sw_at F 8 ⟨rfl, rfl, rfl⟩ rfl rfl hkk Tryd.underlying49 (by kernel_rfl) rfl fun A F => ?_
    refine sw_rng F (cs := [.int .i64 kk, .string (str nm), .string (str al), .string (str ca), .int .i64 ty, .slice ea e.length ec, .slice ba bb.length bc, .slice za zz.length zc]) (rak w M.st) ⟨rfl, rfl, rfl⟩ rfl (by kernel_rfl) (by kernel_rfl) rfl fun A F => ?_
    refine sw_alloc F M [.int .i64 0, .string ⟨#[]⟩, .string ⟨#[]⟩, .string ⟨#[]⟩, .int .i64 0, .slice none 0 0, .slice none 0 0, .slice none 0 0] ⟨rfl, rfl, rfl⟩ (by kernel_rfl) rfl fun x1 A w F M => ?_
    refine sw_setAll F M 0 ⟨rfl, rfl, rfl⟩ rfl rfl rfl (by kernel_rfl) rfl rfl fun w M => ?_
    simp only [List.set_cons_zero, List.set_cons_succ] at M
    refine sw_end ?_
    show Code.wp _ _ _ _ _
    refine sw_seq ?_
    refine sw_reg ?_
    refine sw_move F ⟨rfl, rfl, rfl⟩ rfl rfl fun A F => ?_
    refine sw_move F ⟨rfl, rfl, rfl⟩ rfl rfl fun A F => ?_
    refine sw_at F 8 ⟨rfl, rfl, rfl⟩ rfl rfl (by rw [len_of he]; exact hkk) Tryd.underlying49 (by kernel_rfl) rfl fun A F => ?_
    refine sw_rng F (cs := [.int .i64 kk, .string (str nm), .string (str al), .string (str ca), .int .i64 ty, .slice eaq eq.length ecq, .slice baq bbq.length bcq, .slice zaq zzq.length zcq]) (rbk w M.st) ⟨rfl, rfl, rfl⟩ rfl (by kernel_rfl) (by kernel_rfl) rfl fun A F => ?_
    refine sw_alloc F M [.int .i64 0, .string ⟨#[]⟩, .string ⟨#[]⟩, .string ⟨#[]⟩, .int .i64 0, .slice none 0 0, .slice none 0 0, .slice none 0 0] ⟨rfl, rfl, rfl⟩ (by kernel_rfl) rfl fun x2 A w F M => ?_
    refine sw_setAll F M 0 ⟨rfl, rfl, rfl⟩ rfl rfl rfl (by kernel_rfl) rfl rfl fun w M => ?_
    simp only [List.set_cons_zero, List.set_cons_succ] at M
    refine sw_end ?_
    show Code.wp _ _ _ _ _
    refine sw_seq ?_
    refine sw_seq ?_
    refine sw_reg ?_
    refine sw_fld F 0 ⟨rfl, rfl, rfl⟩ rfl (by kernel_rfl) rfl rfl fun A F => ?_
    refine sw_cell F M 1 ⟨rfl, rfl, rfl⟩ rfl rfl rfl (by kernel_rfl) rfl fun A F => ?_
    refine sw_fld F 0 ⟨rfl, rfl, rfl⟩ rfl (by kernel_rfl) rfl rfl fun A F => ?_
    refine sw_cell F M 0 ⟨rfl, rfl, rfl⟩ rfl rfl rfl (by kernel_rfl) rfl fun A F => ?_
    refine sw_ni F ⟨rfl, rfl, rfl⟩ rfl rfl rfl fun A F => ?_
    refine sw_move F ⟨rfl, rfl, rfl⟩ rfl rfl fun A F => ?_
    refine sw_on F 5 rfl rfl rfl rfl rfl ?_
    refine sw_fld F 1 ⟨rfl, rfl, rfl⟩ rfl (by kernel_rfl) rfl rfl fun A F => ?_
    refine sw_on F 5 rfl rfl rfl rfl rfl ?_
    refine sw_cell F M 1 ⟨rfl, rfl, rfl⟩ rfl rfl rfl (by kernel_rfl) rfl fun A F => ?_
    refine sw_on F 5 rfl rfl rfl rfl rfl ?_
    refine sw_fld F 1 ⟨rfl, rfl, rfl⟩ rfl (by kernel_rfl) rfl rfl fun A F => ?_
    refine sw_on F 5 rfl rfl rfl rfl rfl ?_
    refine sw_cell F M 0 ⟨rfl, rfl, rfl⟩ rfl rfl rfl (by kernel_rfl) rfl fun A F => ?_
    refine sw_on F 5 rfl rfl rfl rfl rfl ?_
    refine sw_ns F ⟨rfl, rfl, rfl⟩ rfl rfl rfl fun A F => ?_
    refine sw_pickF F ⟨rfl, rfl, rfl⟩ rfl rfl rfl fun A F => ?_
    refine sw_move F ⟨rfl, rfl, rfl⟩ rfl rfl fun A F => ?_
    refine sw_on F 12 rfl rfl rfl rfl rfl ?_
    refine sw_fld F 2 ⟨rfl, rfl, rfl⟩ rfl (by kernel_rfl) rfl rfl fun A F => ?_
    refine sw_on F 12 rfl rfl rfl rfl rfl ?_
    refine sw_cell F M 1 ⟨rfl, rfl, rfl⟩ rfl rfl rfl (by kernel_rfl) rfl fun A F => ?_
    refine sw_on F 12 rfl rfl rfl rfl rfl ?_
    refine sw_fld F 2 ⟨rfl, rfl, rfl⟩ rfl (by kernel_rfl) rfl rfl fun A F => ?_
    refine sw_on F 12 rfl rfl rfl rfl rfl ?_
    refine sw_cell F M 0 ⟨rfl, rfl, rfl⟩ rfl rfl rfl (by kernel_rfl) rfl fun A F => ?_
    refine sw_on F 12 rfl rfl rfl rfl rfl ?_
    refine sw_ns F ⟨rfl, rfl, rfl⟩ rfl rfl rfl fun A F => ?_
    refine sw_pickF F ⟨rfl, rfl, rfl⟩ rfl rfl rfl fun A F => ?_
    refine sw_move F ⟨rfl, rfl, rfl⟩ rfl rfl fun A F => ?_
    refine sw_on F 19 rfl rfl rfl rfl rfl ?_
    refine sw_fld F 3 ⟨rfl, rfl, rfl⟩ rfl (by kernel_rfl) rfl rfl fun A F => ?_
    refine sw_on F 19 rfl rfl rfl rfl rfl ?_
    refine sw_cell F M 1 ⟨rfl, rfl, rfl⟩ rfl rfl rfl (by kernel_rfl) rfl fun A F => ?_
    refine sw_on F 19 rfl rfl rfl rfl rfl ?_
    refine sw_fld F 3 ⟨rfl, rfl, rfl⟩ rfl (by kernel_rfl) rfl rfl fun A F => ?_
    refine sw_on F 19 rfl rfl rfl rfl rfl ?_
    refine sw_cell F M 0 ⟨rfl, rfl, rfl⟩ rfl rfl rfl (by kernel_rfl) rfl fun A F => ?_
    refine sw_on F 19 rfl rfl rfl rfl rfl ?_
    refine sw_ns F ⟨rfl, rfl, rfl⟩ rfl rfl rfl fun A F => ?_
    refine sw_pickF F ⟨rfl, rfl, rfl⟩ rfl rfl rfl fun A F => ?_
    refine sw_move F ⟨rfl, rfl, rfl⟩ rfl rfl fun A F => ?_
    refine sw_on F 26 rfl rfl rfl rfl rfl ?_
    refine sw_fld F 4 ⟨rfl, rfl, rfl⟩ rfl (by kernel_rfl) rfl rfl fun A F => ?_
    refine sw_on F 26 rfl rfl rfl rfl rfl ?_
    refine sw_cell F M 1 ⟨rfl, rfl, rfl⟩ rfl rfl rfl (by kernel_rfl) rfl fun A F => ?_
    refine sw_on F 26 rfl rfl rfl rfl rfl ?_
    refine sw_fld F 4 ⟨rfl, rfl, rfl⟩ rfl (by kernel_rfl) rfl rfl fun A F => ?_
    refine sw_on F 26 rfl rfl rfl rfl rfl ?_
    refine sw_cell F M 0 ⟨rfl, rfl, rfl⟩ rfl rfl rfl (by kernel_rfl) rfl fun A F => ?_
    refine sw_on F 26 rfl rfl rfl rfl rfl ?_
    refine sw_ni F ⟨rfl, rfl, rfl⟩ rfl rfl rfl fun A F => ?_
    refine sw_pickF F ⟨rfl, rfl, rfl⟩ rfl rfl rfl fun A F => ?_
    refine sw_move F ⟨rfl, rfl, rfl⟩ rfl rfl fun A F => ?_
    refine sw_on F 33 rfl rfl rfl rfl rfl ?_
    refine sw_fld F 5 ⟨rfl, rfl, rfl⟩ rfl (by kernel_rfl) rfl rfl fun A F => ?_
    refine sw_on F 33 rfl rfl rfl rfl rfl ?_
    refine sw_cell F M 1 ⟨rfl, rfl, rfl⟩ rfl rfl rfl (by kernel_rfl) rfl fun A F => ?_
    refine sw_on F 33 rfl rfl rfl rfl rfl ?_
    refine sw_len F ⟨rfl, rfl, rfl⟩ rfl (Tryd.underlying68) rfl fun A F => ?_
    refine sw_on F 33 rfl rfl rfl rfl rfl ?_
    refine sw_fld F 5 ⟨rfl, rfl, rfl⟩ rfl (by kernel_rfl) rfl rfl fun A F => ?_
    refine sw_on F 33 rfl rfl rfl rfl rfl ?_
    refine sw_cell F M 0 ⟨rfl, rfl, rfl⟩ rfl rfl rfl (by kernel_rfl) rfl fun A F => ?_
    refine sw_on F 33 rfl rfl rfl rfl rfl ?_
    refine sw_len F ⟨rfl, rfl, rfl⟩ rfl (Tryd.underlying68) rfl fun A F => ?_
    refine sw_on F 33 rfl rfl rfl rfl rfl ?_
    refine sw_nn (by rw [len_of he2]) F ⟨rfl, rfl, rfl⟩ rfl rfl rfl fun A F => ?_
    refine sw_pickF F ⟨rfl, rfl, rfl⟩ rfl rfl rfl fun A F => ?_
    refine sw_end ?_
    show Code.wp _ _ _ _ _
    refine sw_false F rfl ?_
    refine wp_skip ?_
    show Code.wp _ _ _ _ _
    refine sw_seq ?_
    refine sw_seq ?_
    refine sw_reg ?_
    refine sw_asg F ⟨rfl, rfl, rfl⟩ rfl rfl fun A F => ?_
    refine sw_end ?_
    show Code.wp _ _ _ _ _
    refine wp_block ?_
    refine wp_loop (fun A w => ∃ j : Nat, j ≤ e.length ∧ Fm 103 [(8, .int .i64 (j : Int)), (5, .int .i64 (k : Int)), (6, .pointer (some ⟨x1, 0, none⟩)), (7, .pointer (some ⟨x2, 0, none⟩)), (0, .slice (some ⟨bk, ok, none⟩) es.length lc), (1, .slice (some ⟨bkq, okq, none⟩) gs.length ld)] A ∧ Mm (Bx w0) (fun _ => False) wO [.box x2 [.int .i64 kk, .string (str nm), .string (str al), .string (str ca), .int .i64 ty, .slice eaq eq.length ecq, .slice baq bbq.length bcq, .slice zaq zzq.length zcq] 70, .box x1 [.int .i64 kk, .string (str nm), .string (str al), .string (str ca), .int .i64 ty, .slice ea e.length ec, .slice ba bb.length bc, .slice za zz.length zc] 70] () w) (fun A _ => e.length - (intOf (A.eval (.tmp 8))).toNat) ?_ ?_
    · exact ⟨0, Nat.zero_le _, F.keep [8, 5, 6, 7, 0, 1] rfl, M⟩
    repeat clear F
    repeat clear M
    rintro A w ⟨j, hlj, F, M⟩
    have hAj : A.eval (.tmp 8) = .int .i64 (j : Int) := F.2.2 8 _ rfl
    refine sw_seq ?_
    refine sw_seq ?_
    refine sw_reg ?_
    refine sw_move F ⟨rfl, rfl, rfl⟩ rfl rfl fun A F => ?_
    refine sw_fld F 5 ⟨rfl, rfl, rfl⟩ rfl (by kernel_rfl) rfl rfl fun A F => ?_
    refine sw_cell F M 1 ⟨rfl, rfl, rfl⟩ rfl rfl rfl (by kernel_rfl) rfl fun A F => ?_
    refine sw_len F ⟨rfl, rfl, rfl⟩ rfl (Tryd.underlying68) rfl fun A F => ?_
    refine sw_lss F ⟨rfl, rfl, rfl⟩ rfl rfl rfl fun A F => ?_
    refine sw_end ?_
    show Code.wp _ _ _ _ _
    refine sw_cond F rfl (fun hcj => ?_) (fun hcj => ?_)
    · skip
      have hkj : j < e.length := by have := of_decide_eq_true hcj; omega
      obtain ⟨bj, oj, dj, rfl, hdj, raj, lij, hmj⟩ := el_at hA2 hsA2 hkj
      obtain ⟨bjq, ojq, djq, rfl, hdjq, rbj, lijq, hmjq⟩ := el_at hB2 hsB2 (k := j) (by rw [len_of he2]; exact hkj)
      have hqj := el_same he2 hdj hdjq
      have hm3 : pvAll dj ∈ xs := by rw [← i1]; exact hmj
      obtain ⟨opj, nj, sj, esj, hej, _⟩ := (hxs _ hm3).out
      obtain ⟨laj, lcj, ej, e1, _⟩ := inv_E hej
      obtain ⟨lbj, ldj, fj, e2, _⟩ := inv_E (hqj.trans hej)
      subst e1 e2
      refine wp_skip ?_
      show Code.wp _ _ _ _ _
      refine sw_seq ?_
      refine wp_block ?_
      refine sw_seq ?_
      refine wp_region_held (S := fun w' => w'.cell? ⟨x1, 5, none⟩ = some (.slice (some ⟨bj, oj, none⟩) e.length ec) ∧ w'.cell? ⟨x2, 5, none⟩ = some (.slice (some ⟨bjq, ojq, none⟩) eq.length ecq) ∧ Bx w0 () w') (by kernel_rfl) ?_
      show wpAnyH _ _ _ _ _ _ _ _ w.drew
      replace M := M.drew
      have hS : w.drew.cell? ⟨x1, 5, none⟩ = some (.slice (some ⟨bj, oj, none⟩) e.length ec) ∧ w.drew.cell? ⟨x2, 5, none⟩ = some (.slice (some ⟨bjq, ojq, none⟩) eq.length ecq) ∧ Bx w0 () w.drew := ⟨M.cell 1 rfl rfl, M.cell 0 rfl rfl, M.st⟩
      refine sd_fld F 0 5 rfl ⟨rfl, rfl, rfl⟩ rfl (by kernel_rfl) rfl (by kernel_rfl) (by kernel_rfl) (by kernel_rfl) (fun _ _ _ h => h) rfl hS fun A F => ?_
      refine sd_cell F 1 rfl ⟨rfl, rfl, rfl⟩ rfl (by kernel_rfl) (fun _ h => h.1) (by kernel_rfl) (by kernel_rfl) (by kernel_rfl) (fun _ _ _ h => h) rfl hS fun A F => ?_
      refine sd_move F 2 rfl ⟨rfl, rfl, rfl⟩ rfl (by kernel_rfl) (by kernel_rfl) (by kernel_rfl) (fun _ _ _ h => h) rfl hS fun A F => ?_
      refine sd_at F 3 4 rfl ⟨rfl, rfl, rfl⟩ rfl rfl hkj Tryd.underlying68 (by kernel_rfl) (by kernel_rfl) (by kernel_rfl) (by kernel_rfl) (fun _ _ _ h => h) rfl hS fun A F => ?_
      refine sd_rng F 4 (cs := [.int .i64 opj, .int .i64 nj, .string (str sj), .slice laj ej.length lcj]) rfl ⟨rfl, rfl, rfl⟩ rfl (by kernel_rfl) (by kernel_rfl) (fun w h => raj w h.2.2) (by kernel_rfl) (by kernel_rfl) (by kernel_rfl) (fun _ _ _ h => h) rfl hS fun A F => ?_
      refine sd_fld F 5 5 rfl ⟨rfl, rfl, rfl⟩ rfl (by kernel_rfl) rfl (by kernel_rfl) (by kernel_rfl) (by kernel_rfl) (fun _ _ _ h => h) rfl hS fun A F => ?_
      refine sd_cell F 6 rfl ⟨rfl, rfl, rfl⟩ rfl (by kernel_rfl) (fun _ h => h.2.1) (by kernel_rfl) (by kernel_rfl) (by kernel_rfl) (fun _ _ _ h => h) rfl hS fun A F => ?_
      refine sd_move F 7 rfl ⟨rfl, rfl, rfl⟩ rfl (by kernel_rfl) (by kernel_rfl) (by kernel_rfl) (fun _ _ _ h => h) rfl hS fun A F => ?_
      refine sd_at F 8 4 rfl ⟨rfl, rfl, rfl⟩ rfl rfl (by rw [len_of he2]; exact hkj) Tryd.underlying68 (by kernel_rfl) (by kernel_rfl) (by kernel_rfl) (by kernel_rfl) (fun _ _ _ h => h) rfl hS fun A F => ?_
      refine sd_rng F 9 (cs := [.int .i64 opj, .int .i64 nj, .string (str sj), .slice lbj fj.length ldj]) rfl ⟨rfl, rfl, rfl⟩ rfl (by kernel_rfl) (by kernel_rfl) (fun w h => rbj w h.2.2) (by kernel_rfl) (by kernel_rfl) (by kernel_rfl) (fun _ _ _ h => h) rfl hS fun A F => ?_
      clear hS
      refine sd_one 10 rfl (by kernel_rfl) rfl ?_
      refine sw_call0 (sameE_m _ (hxs _ hm3) w0 lo lo' _ _ (Eq.refl _) hqj lij lijq) F M ⟨rfl, rfl, rfl⟩ rfl rfl ?_
      rintro _ _ A w ⟨_, rfl⟩ F M
      have hS : w.cell? ⟨x1, 5, none⟩ = some (.slice (some ⟨bj, oj, none⟩) e.length ec) ∧ w.cell? ⟨x2, 5, none⟩ = some (.slice (some ⟨bjq, ojq, none⟩) eq.length ecq) ∧ Bx w0 () w := ⟨M.cell 1 rfl rfl, M.cell 0 rfl rfl, M.st⟩
      refine sw_end ⟨hS, ?_⟩
      refine sd_one 11 rfl (by kernel_rfl) rfl ?_
      refine sw_not F ⟨rfl, rfl, rfl⟩ rfl rfl fun A F => ?_
      refine sw_end ⟨hS, ?_⟩
      clear hS
      refine wpAnyH_done (by kernel_rfl) ?_ _
      show Code.wp _ _ _ _ _
      refine sw_false F rfl ?_
      refine wp_skip ?_
      show Code.wp _ _ _ _ _
      refine sw_reg ?_
      refine sw_move F ⟨rfl, rfl, rfl⟩ rfl rfl fun A F => ?_
      refine sw_add F ⟨rfl, rfl, rfl⟩ rfl rfl (by have := lie_max hA2; omega) rfl fun A F => ?_
      refine sw_asg F ⟨rfl, rfl, rfl⟩ rfl rfl fun A F => ?_
      refine sw_end ?_
      show _ ∧ _
      refine ⟨⟨j + 1, by omega, F.keep [8, 5, 6, 7, 0, 1] rfl, M⟩, ?_⟩
      rw [(F.keep (N := 103) (L' := [(8, .int .i64 ((j + 1 : Nat) : Int))]) [8] rfl).2.2 8 (.int .i64 ((j + 1 : Nat) : Int)) rfl, hAj]
      simp only [intOf]
      omega
    · skip
      refine wp_exit ?_
      repeat (first | refine then_exit ?_ | refine exit_block ?_ | refine exit_pass rfl ?_)
      show Code.wp _ _ _ _ _
      refine sw_seq ?_
      refine sw_reg ?_
      refine sw_fld F 6 ⟨rfl, rfl, rfl⟩ rfl (by kernel_rfl) rfl rfl fun A F => ?_
      refine sw_cell F M 1 ⟨rfl, rfl, rfl⟩ rfl rfl rfl (by kernel_rfl) rfl fun A F => ?_
      refine sw_fld F 6 ⟨rfl, rfl, rfl⟩ rfl (by kernel_rfl) rfl rfl fun A F => ?_
      refine sw_cell F M 0 ⟨rfl, rfl, rfl⟩ rfl rfl rfl (by kernel_rfl) rfl fun A F => ?_
      refine sw_call0 (hys w0 lo lo' _ _ _ _ _ _ hA3 hB3 i2 j2) F M ⟨rfl, rfl, rfl⟩ rfl rfl ?_
      rintro _ _ A w ⟨_, rfl⟩ F M
      refine sw_not F ⟨rfl, rfl, rfl⟩ rfl rfl fun A F => ?_
      refine sw_move F ⟨rfl, rfl, rfl⟩ rfl rfl fun A F => ?_
      refine sw_on F 6 rfl rfl rfl rfl rfl ?_
      refine sw_fld F 7 ⟨rfl, rfl, rfl⟩ rfl (by kernel_rfl) rfl rfl fun A F => ?_
      refine sw_on F 6 rfl rfl rfl rfl rfl ?_
      refine sw_cell F M 1 ⟨rfl, rfl, rfl⟩ rfl rfl rfl (by kernel_rfl) rfl fun A F => ?_
      refine sw_on F 6 rfl rfl rfl rfl rfl ?_
      refine sw_fld F 7 ⟨rfl, rfl, rfl⟩ rfl (by kernel_rfl) rfl rfl fun A F => ?_
      refine sw_on F 6 rfl rfl rfl rfl rfl ?_
      refine sw_cell F M 0 ⟨rfl, rfl, rfl⟩ rfl rfl rfl (by kernel_rfl) rfl fun A F => ?_
      refine sw_on F 6 rfl rfl rfl rfl rfl ?_
      refine sw_call0 (hzs w0 lo lo' _ _ _ _ _ _ hA4 hB4 i3 j3) F M ⟨rfl, rfl, rfl⟩ rfl rfl ?_
      rintro _ _ A w ⟨_, rfl⟩ F M
      refine sw_on F 6 rfl rfl rfl rfl rfl ?_
      refine sw_not F ⟨rfl, rfl, rfl⟩ rfl rfl fun A F => ?_
      refine sw_pickF F ⟨rfl, rfl, rfl⟩ rfl rfl rfl fun A F => ?_
      refine sw_end ?_
      show Code.wp _ _ _ _ _
      refine sw_false F rfl ?_
      refine wp_skip ?_
      show Code.wp _ _ _ _ _
      refine sw_reg ?_
      refine sw_move F ⟨rfl, rfl, rfl⟩ rfl rfl fun A F => ?_
      refine sw_add F ⟨rfl, rfl, rfl⟩ rfl rfl (by have := lie_max hA; omega) rfl fun A F => ?_
      refine sw_asg F ⟨rfl, rfl, rfl⟩ rfl rfl fun A F => ?_
      refine sw_end ?_
      replace M := M.drop 1 rfl
      replace M := M.drop 0 rfl
      show _ ∧ _
      refine ⟨⟨k + 1, by omega, F.keep [5, 0, 1] rfl, M⟩, ?_⟩
      rw [(F.keep (N := 103) (L' := [(5, .int .i64 ((k + 1 : Nat) : Int))]) [5] rfl).2.2 5 (.int .i64 ((k + 1 : Nat) : Int)) rfl, hAk]
      simp only [intOf]
      omega
  · skip
    refine wp_exit ?_
    repeat (first | refine then_exit ?_ | refine exit_block ?_ | refine exit_pass rfl ?_)
    show Code.wp _ _ _ _ _
    refine sw_seq ?_
    refine sw_reg ?_
    refine sw_asg F ⟨rfl, rfl, rfl⟩ rfl rfl fun A F => ?_
    refine sw_end ?_
    show Code.wp _ _ _ _ _
    refine wp_ret ?_
    repeat (first | refine then_ret ?_ | refine block_ret ?_)
    exact sw_rettmp F Tryd.results16 rfl ⟨_, [], (), rfl, M.but, M.st, lie_nil _ _, rfl⟩
theorem sub_all : ∀ x, ShS x → ∃ k nm al ca ty es bs ls, x = stP k nm al ca ty es bs ls ∧ ShL es ∧ SB bs ∧ SB ls := by
  intro x hx
  induction hx with
  | mk k nm al ca ty es bs ls h1 h2 h3 i2 i3 => exact ⟨k, nm, al, ca, ty, es, bs, ls, rfl, h1, sameB_of bs i2, sameB_of ls i3⟩
theorem sameB_m (l : List EV) (h : ShB l) : SB l := sameB_of l fun x hx => sub_all x (h x hx)
end Go.Proofs.YtgpjlocgkdlnlaaDoor
