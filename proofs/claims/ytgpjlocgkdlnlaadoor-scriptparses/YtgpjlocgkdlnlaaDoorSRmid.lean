/- The answer's Parser: next. -/
import Derived.Test.YtgpjlocgkdlnlaaDoorSRnext
namespace Go.Proofs.YtgpjlocgkdlnlaaDoor
open Go.RowKit
set_option linter.unusedVariables false
set_option linter.unusedSimpArgs false

set_option maxRecDepth 8000 in
set_option maxHeartbeats 3200000 in
theorem next_e (e0 : Int) (he : (e0 != 0) = true) (text : Key) (c : C4) (b at_ : Nat) (kd : Int) (tx : Key) (n lv : Int) (wO : World) (kb : Blk wO b (pC text at_ kd tx n lv e0 c) 43) : Calls Tryd.prog 10 ([ptr b] : List Value).toArray wO fun e w' => e = .returned (.tuple #[]) ∧ But (fun k => k = b) wO w' ∧ Blk w' b (pC text at_ kd tx n lv e0 c) 43 := by
  have hB := But.refl (fun k => k = b) wO
  refine sw_fn Tryd.func10 rfl 273 Tryd.ntmps10 rfl fun A F => ?_
  refine sw_seq ?_
  refine sw_seq ?_
  refine sw_reg ?_
  refine sw_move F ⟨rfl, rfl, rfl⟩ rfl rfl fun A F => ?_
  refine sw_nil F ⟨rfl, rfl, rfl⟩ rfl rfl fun A F => ?_
  refine sw_fld F 6 ⟨rfl, rfl, rfl⟩ rfl (by kernel_rfl) rfl rfl fun A F => ?_
  refine sw_ext F ((kb.cell 6).trans rfl) ⟨rfl, rfl, rfl⟩ rfl (by kernel_rfl) rfl fun A F => ?_
  refine sw_neq F ⟨rfl, rfl, rfl⟩ rfl rfl rfl fun A F => ?_
  rw [he] at F
  refine sw_end ?_
  show Code.wp _ _ _ _ _
  refine sw_true F rfl ?_
  refine wp_ret ?_
  repeat (first | refine then_ret ?_ | refine block_ret ?_)
  exact sw_retnone F Tryd.results10 ⟨rfl, hB, kb⟩
theorem rnext_m (text : Key) (c : C4) (b : Nat) (S : ES) : Meth Tryd.prog (PdX text c b) (fun k => k = b) 10 [ptr b] S fun v fs S' => Rv (fun _ => nextT) S () S' := by
  refine ⟨by kernel_rfl, fun w R _ => ?_⟩
  cases S with
  | error e0 =>
    obtain ⟨h, a, kd, t, n, lv, k⟩ := R
    refine (next_e e0 (by simpa using h) text c b _ _ _ _ _ w k).mono ?_
    rintro e w' ⟨rfl, hB, k'⟩
    exact ⟨_, [], .error e0, rfl, hB, ⟨h, _, _, _, _, _, k'⟩, lie_nil _ _, Rv.of rfl⟩
  | ok σ =>
    obtain ⟨a, t, h1, h2, k, h3, h4, h5, h6⟩ := R
    have hlen := h1.2
    refine (next_ok text c b a _ _ _ _ w k hlen h1.1).mono ?_
    rintro e w' ⟨rfl, hB, at', kd', tx', n', e', k', hx⟩
    rw [h2] at hx
    have hlt := cutT_len (gap false σ.rest)
    have hgl := gap_len false σ.rest
    have hok := cutT_ok (gap false σ.rest)
    have hN : ∀ q, cutT (gap false σ.rest) = q → nextT σ = (match q with | (.none, _) => .error 6 | (t, r) => .ok ((), { σ with now := t, rest := r })) := fun q e => by subst e; rfl
    unfold NX at hx
    cases hc : cutT (gap false σ.rest) with
    | mk tk r =>
      rw [hc] at hx hlt hok
      have hN := hN _ hc
      by_cases ht : tk = .none
      · subst ht
        have hx : e' = 6 := hx
        subst hx
        exact ⟨_, [], .error 6, rfl, hB, ⟨by decide, _, _, _, _, _, k'⟩, lie_nil _ _, Rv.of (Rel.of_err hN)⟩
      · have hx : e' = 0 ∧ at' ≤ text.length ∧ text.drop at' = r ∧ kd' = tokK tk ∧ tokT tk tx' ∧ n' = tk.n := by cases tk <;> first | exact absurd rfl ht | exact hx
        obtain ⟨rfl, q1, q2, rfl, q3, rfl⟩ := hx
        have hN : nextT σ = .ok ((), { σ with now := tk, rest := r }) := by rw [hN]; cases tk <;> first | exact absurd rfl ht | rfl
        have hmu := mu_next hN
        have hmu2 : σ.rest.length ≤ mu σ := by unfold mu; omega
        exact ⟨_, [], .ok { σ with now := tk, rest := r }, rfl, hB, ⟨at', tx', ⟨q1, hlen⟩, q2, k', q3, ⟨by have := h4.1; show r.length ≤ 2048; simp only at hlt; omega, hok⟩, h5, by show _ ≤ σ.lv; omega⟩, lie_nil _ _, Rv.of (Rel.of_ok hN)⟩
end Go.Proofs.YtgpjlocgkdlnlaaDoor
