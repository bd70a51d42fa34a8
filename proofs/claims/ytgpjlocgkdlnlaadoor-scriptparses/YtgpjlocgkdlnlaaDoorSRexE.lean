/- The answer's Parser: all expressions, given first of a word or a sign. -/
import Derived.Test.YtgpjlocgkdlnlaaDoorSRexD
namespace Go.Proofs.YtgpjlocgkdlnlaaDoor
open Go.RowKit
set_option linter.unusedVariables false
set_option linter.unusedSimpArgs false

/-- What expr gives, with less left than m. -/
def ExLess (text : Key) (c : C4) (b m : Nat) : Prop := ∀ (S : ES) (r : Nat), need S < m → 1 ≤ r → r ≤ 7 → Meth Tryd.prog (PdX text c b) (fun k => k = b) 61 [ptr b, .int .i64 r] S (ExQ (fun n => exprT n r) S)
/-- What first gives at a word or a sign. -/
def FirstW (text : Key) (c : C4) (b : Nat) : Prop := ∀ m, ExLess text c b m → ∀ (σ : St) (s : Key), need (.ok σ) ≤ m → σ.now = .fixed s → Meth Tryd.prog (PdX text c b) (fun k => k = b) 69 [ptr b] (.ok σ) (ExQ atomT (.ok σ))
theorem rfirst_of {m : Nat} (text : Key) (c : C4) (b : Nat) (IH : ExLess text c b m) (HW : FirstW text c b) (σ : St) (hm : need (.ok σ) ≤ m) : Meth Tryd.prog (PdX text c b) (fun k => k = b) 69 [ptr b] (.ok σ) (ExQ atomT (.ok σ)) := by
  cases h : σ.now with
  | num mm => exact first_num text c b σ mm h (by rw [h]; rfl)
  | name s => exact first_name text c b IH σ hm s h (by rw [h]; rfl)
  | fin => exact first_fin text c b σ (by rw [h]; rfl) (fun s q => by rw [h] at q; cases q)
  | none => exact first_none text c b σ (by rw [h]; rfl) (fun s q => by rw [h] at q; cases q)
  | fixed s => exact HW m IH σ s hm h
theorem rexpr_less (text : Key) (c : C4) (b : Nat) (HW : FirstW text c b) : ∀ m, ExLess text c b m
  | 0 => fun S r h _ _ => absurd h (Nat.not_lt_zero _)
  | m + 1 => fun S r h h1 h7 => by
    have IH := rexpr_less text c b HW m
    refine rexpr_of (m := m) text c b IH S (by omega) ?_ r h1 h7
    rintro ⟨σ, rfl⟩
    exact rfirst_of text c b IH HW σ (by omega)
end Go.Proofs.YtgpjlocgkdlnlaaDoor
