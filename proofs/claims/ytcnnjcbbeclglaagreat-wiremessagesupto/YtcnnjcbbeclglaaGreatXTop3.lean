/- What both sides say of blocks: the same. -/
import Derived.Test.YtcnnjcbbeclglaaGreatWM7
import Derived.Test.YtcnnjcbbeclglaaGreatXWalk4
import Derived.Test.YtcnnjcbbeclglaaGreatXRef6
import Derived.Test.YtcnnjcbbeclglaaGreatXMay4
namespace Go.Proofs.YtcnnjcbbeclglaaGreat
open Go.RowKit
set_option linter.unusedVariables false
set_option linter.unusedSimpArgs false

theorem Vote.odd_may (x : Vote) (h : okL x.atoms = true) : x.odd = !x.may := by
  refine vote_odd x.h x.r x.s x.has x.bl x.f ?_
  have e := x.far
  rw [h] at e
  exact e.symm
theorem Guilt.odd_may (x : Guilt) (h : okL x.atoms = true) : x.odd = !x.may := by
  simp only [Guilt.atoms, okL_append, Bool.and_eq_true] at h
  unfold Guilt.odd Guilt.may
  rw [x.a.odd_may h.1, x.c.odd_may h.2]
  simp
theorem Block.odd_may (x : Block) (h : okL x.atoms = true) : x.odd = !x.may := by
  simp only [Block.atoms, okL_append, Bool.and_eq_true] at h
  have ht := okL_list h.1.2
  have hg := okL_list h.2
  unfold Block.odd Block.may
  rw [any_all fun y hy => Tx.odd_may y (ht.2 y hy), any_all fun y hy => Guilt.odd_may y (hg.2 y hy)]
  simp
theorem Block.short_of (x : Block) (h : wtL x.atoms ≤ 1099400000000) : ∀ y ∈ x.tx.xs, wtL y.atoms ≤ 1099400000000 := by
  intro y hy
  have h1 := each_mem Tx.atoms x.tx.xs y hy
  simp only [Block.atoms, wtL_append, listL, wtL] at h
  omega





end Go.Proofs.YtcnnjcbbeclglaaGreat
