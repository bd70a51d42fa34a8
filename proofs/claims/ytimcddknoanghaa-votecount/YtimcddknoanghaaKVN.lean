/- Votes appended, with letters for lengths; parts of a list. -/
import Derived.Test.YtimcddknoanghaaKMem
namespace Go.Proofs.Ytimcddknoanghaa
open Go.RowKit
set_option linter.unusedVariables false
set_option linter.unusedSimpArgs false

theorem own_slice6 {w : World} {base : Nat} {e : TypeId} {size : Nat} {v : Value} {n : Nat} {xs : List Value} (h : w.ownsRow base e size v n xs) : ∃ a c, v = .slice a n c := by
  rcases h.2 with ⟨h1, h2⟩ | ⟨g, cap, cur, h1, _⟩
  · exact ⟨none, 0, by rw [h1, h2]⟩
  · exact ⟨_, _, h1⟩
theorem app_votesN (w : World) (base : Nat) (sv : Value) (done : List Vt) (n : Nat) (hown : w.ownsRow base 34 6 sv n (flatV done)) (hdn : done.length = n) (la : Option Addr) (cap : Nat) (l : List Vt) (hT : VotesAt w la l) (nn n' : Nat) (hnn : l.length = nn) (hn' : n + nn = n') (hd : n ≤ 200000) (hl : nn ≤ 200000) (hb : base ≤ w.heap.size) :
    ∃ a c w', (Builtin.append_ #[23, 23] 23 #[sv, .slice la nn cap]).run Try.prog w = .ok (.slice a n' c) w' ∧ w'.ownsRow base 34 6 (.slice a n' c) n' (flatV (done ++ l)) ∧ w.grownBy w' sv.ownBlock := by
  subst hdn
  subst hn'
  obtain ⟨v, w', hr, ho, hg⟩ := app_votes w base sv done hown la cap l hT hd (by omega) hb nn hnn
  rw [List.length_append, hnn] at ho
  obtain ⟨a, c, rfl⟩ := own_slice6 ho
  exact ⟨a, c, w', hr, ho, hg⟩
theorem votes_take {w : World} {la : Option Addr} {L : List Vt} (h : VotesAt w la L) (i : Nat) : VotesAt w la (L.take i) := by
  rcases h with h | ⟨b, off, e, hl, hc⟩
  · exact .inl (by rw [h]; simp)
  · refine .inr ⟨b, off, e, hl, fun j x hx u hu => hc j x ?_ u hu⟩
    rw [List.getElem?_take] at hx
    split at hx
    · exact hx
    · cases hx
theorem votes_drop {w : World} {b off : Nat} {L : List Vt} (h : VotesAt w (some ⟨b, off, none⟩) L) (i : Nat) : VotesAt w (some ⟨b, off + i * 6, none⟩) (L.drop i) := by
  rcases h with h | ⟨b', off', e, hl, hc⟩
  · exact .inl (by rw [h]; simp)
  · cases e
    refine .inr ⟨b, off + i * 6, rfl, hl, fun j x hx u v hu => ?_⟩
    rw [List.getElem?_drop] at hx
    have := hc (i + j) x hx u v hu
    rw [show off + i * 6 + j * 6 + u = off + (i + j) * 6 + u by omega]
    exact this
end Go.Proofs.Ytimcddknoanghaa
