/- What both sides say of blocks: the same. -/
import Derived.Test.YtgcebahlfgclgaaXTop2
import Derived.Test.YtgcebahlfgclgaaXPut2
import Derived.Test.YtgcebahlfgclgaaXWalk4
import Derived.Test.YtgcebahlfgclgaaXRef6
import Derived.Test.YtgcebahlfgclgaaXMay4
namespace Go.Proofs.Ytgcebahlfgclgaa
open Go.RowKit
set_option linter.unusedVariables false
set_option linter.unusedSimpArgs false

theorem Vote.odd_may (x : Vote) (h : okL x.atoms = true) : x.odd = !x.may := by
  refine vote_odd x.h x.r x.s x.has x.bl x.f ?_
  have e := x.far
  rw [h] at e
  exact e.symm
theorem Guilt.odd_may (x : Guilt) (h : okL x.atoms = true) : x.odd = !x.may := by
  simp only [Guilt.atoms, okL_append, Bool.and_eq_true] at h
  unfold Guilt.odd Guilt.may
  rw [x.a.odd_may h.1, x.c.odd_may h.2]
  simp
theorem Block.odd_may (x : Block) (h : okL x.atoms = true) : x.odd = !x.may := by
  simp only [Block.atoms, okL_append, Bool.and_eq_true] at h
  have ht := okL_list h.1.2
  have hg := okL_list h.2
  unfold Block.odd Block.may
  rw [any_all fun y hy => Tx.odd_may y (ht.2 y hy), any_all fun y hy => Guilt.odd_may y (hg.2 y hy)]
  simp
theorem Block.short_of (x : Block) (h : wtL x.atoms ≤ 1099400000000) : ∀ y ∈ x.tx.xs, wtL y.atoms ≤ 1099400000000 := by
  intro y hy
  have h1 := each_mem Tx.atoms x.tx.xs y hy
  simp only [Block.atoms, wtL_append, listL, wtL] at h
  omega

set_option maxHeartbeats 1600000 in
theorem wputBlock_anyX (x : Block) (w : World) (hL : wtL x.atoms ≤ 1099400000000) (g : goods w.heap.size w x.flds) :
    Calls Try.prog 31 #[(.agg #[.int .i64 x.hd.c, .int .i64 x.hd.h, .int .u64 x.hd.pa, .int .u64 x.hd.tx, .int .u64 x.hd.gu, .int .u64 x.hd.st, .int .u64 x.hd.re, .int .u64 x.hd.be, .int .i64 x.hd.pr, .slice x.tx.la x.tx.xs.length x.tx.lc, .slice x.gu.la x.gu.xs.length x.gu.lc])] w fun e w' => e = .returned (.tuple #[.string ⟨(outB (encZL x.atoms) (!okL x.atoms) x.odd).toArray⟩, .int .i64 (outE (!okL x.atoms) x.odd)]) ∧ Below w.heap.size w w' := by
  have g : goods (w.alloc (.cells #[.int .i64 x.hd.c, .int .i64 x.hd.h, .int .u64 x.hd.pa, .int .u64 x.hd.tx, .int .u64 x.hd.gu, .int .u64 x.hd.st, .int .u64 x.hd.re, .int .u64 x.hd.be, .int .i64 x.hd.pr, .slice x.tx.la x.tx.xs.length x.tx.lc, .slice x.gu.la x.gu.xs.length x.gu.lc] 70)).heap.size (w.alloc (.cells #[.int .i64 x.hd.c, .int .i64 x.hd.h, .int .u64 x.hd.pa, .int .u64 x.hd.tx, .int .u64 x.hd.gu, .int .u64 x.hd.st, .int .u64 x.hd.re, .int .u64 x.hd.be, .int .i64 x.hd.pr, .slice x.tx.la x.tx.xs.length x.tx.lc, .slice x.gu.la x.gu.xs.length x.gu.lc] 70)) x.flds := (g.below ((Below.refl _ _).alloc (Nat.le_refl _) _)).mono (by simp)
  have hput := put_Block x (if okL x.atoms = true then some ([] ++ encL x.atoms) else none) x.may (w.alloc (.cells #[.int .i64 x.hd.c, .int .i64 x.hd.h, .int .u64 x.hd.pa, .int .u64 x.hd.tx, .int .u64 x.hd.gu, .int .u64 x.hd.st, .int .u64 x.hd.re, .int .u64 x.hd.be, .int .i64 x.hd.pr, .slice x.tx.la x.tx.xs.length x.tx.lc, .slice x.gu.la x.gu.xs.length x.gu.lc] 70)) (fun b w5 hP kX hne hb5 => (pblock_anyX (w.alloc (.cells #[.int .i64 x.hd.c, .int .i64 x.hd.h, .int .u64 x.hd.pa, .int .u64 x.hd.tx, .int .u64 x.hd.gu, .int .u64 x.hd.st, .int .u64 x.hd.re, .int .u64 x.hd.be, .int .i64 x.hd.pr, .slice x.tx.la x.tx.xs.length x.tx.lc, .slice x.gu.la x.gu.xs.length x.gu.lc] 70)).heap.size b (w.alloc (.cells #[.int .i64 x.hd.c, .int .i64 x.hd.h, .int .u64 x.hd.pa, .int .u64 x.hd.tx, .int .u64 x.hd.gu, .int .u64 x.hd.st, .int .u64 x.hd.re, .int .u64 x.hd.be, .int .i64 x.hd.pr, .slice x.tx.la x.tx.xs.length x.tx.lc, .slice x.gu.la x.gu.xs.length x.gu.lc] 70)).heap.size 0 x [] w5 (by simp; omega) hP (kX.safe (by decide) hne) (CellsAt.of_blk kX (by simp [Vote.flds, Guilt.flds, Cert.flds, Header.flds, Turn.flds, Proof.flds, Sight.flds, Tx.flds, Block.flds, Motion.flds, Known.flds, Message.flds, Record.flds, Fld.val, Lst.fld]) (g.below hb5))).mono fun e w' ⟨h1, h2⟩ => ⟨h1.wrote, h2⟩) (fun w5 h5 => mayBlock_anyX x w5 ((g.below h5).mono h5.size) ( x.short_of hL))
  rw [(put_same x.fit (fun h => x.odd_may h)).1, (put_same x.fit (fun h => x.odd_may h)).2] at hput
  clear g
  go_enter Try.func31, Try.ntmps31
  go_wp2_with fail
  refine hput.mono ?_
  rintro e w1 ⟨rfl, b1⟩
  go_wp2
  go_ret2
  exact ⟨rfl, ((Below.refl _ _).alloc (Nat.le_refl _) _).trans (b1.mono (by simp))⟩

set_option maxHeartbeats 1600000 in
theorem rputBlock_anyX (x : Block) (w : World) (hL : wtL x.atoms ≤ 1099400000000) (g : goods w.heap.size w x.flds) :
    Calls Try.prog 32 #[(.agg #[.int .i64 x.hd.c, .int .i64 x.hd.h, .int .u64 x.hd.pa, .int .u64 x.hd.tx, .int .u64 x.hd.gu, .int .u64 x.hd.st, .int .u64 x.hd.re, .int .u64 x.hd.be, .int .i64 x.hd.pr, .slice x.tx.la x.tx.xs.length x.tx.lc, .slice x.gu.la x.gu.xs.length x.gu.lc])] w fun e w' => e = .returned (.tuple #[.string ⟨(outB (encZL x.atoms) (!okL x.atoms) x.odd).toArray⟩, .int .i64 (outE (!okL x.atoms) x.odd)]) ∧ Below w.heap.size w w' := by
  have R0 : RefL ((w.alloc (.cells #[.int .i64 x.hd.c, .int .i64 x.hd.h, .int .u64 x.hd.pa, .int .u64 x.hd.tx, .int .u64 x.hd.gu, .int .u64 x.hd.st, .int .u64 x.hd.re, .int .u64 x.hd.be, .int .i64 x.hd.pr, .slice x.tx.la x.tx.xs.length x.tx.lc, .slice x.gu.la x.gu.xs.length x.gu.lc] 70)).alloc (.cells #[.string ⟨#[]⟩, .bool false, .bool false] 80)) (w.heap.size + 1) [] false := by
    have h := Blk.new (w.alloc (.cells #[.int .i64 x.hd.c, .int .i64 x.hd.h, .int .u64 x.hd.pa, .int .u64 x.hd.tx, .int .u64 x.hd.gu, .int .u64 x.hd.st, .int .u64 x.hd.re, .int .u64 x.hd.be, .int .i64 x.hd.pr, .slice x.tx.la x.tx.xs.length x.tx.lc, .slice x.gu.la x.gu.xs.length x.gu.lc] 70)) #[.string ⟨#[]⟩, .bool false, .bool false] 80
    rw [World.size_alloc] at h
    exact h
  have bA : Below w.heap.size w ((w.alloc (.cells #[.int .i64 x.hd.c, .int .i64 x.hd.h, .int .u64 x.hd.pa, .int .u64 x.hd.tx, .int .u64 x.hd.gu, .int .u64 x.hd.st, .int .u64 x.hd.re, .int .u64 x.hd.be, .int .i64 x.hd.pr, .slice x.tx.la x.tx.xs.length x.tx.lc, .slice x.gu.la x.gu.xs.length x.gu.lc] 70)).alloc (.cells #[.string ⟨#[]⟩, .bool false, .bool false] 80)) := ((Below.refl _ _).alloc (Nat.le_refl _) _).alloc (by simp) _
  have g1 := g.below bA
  clear g
  go_enter Try.func32, Try.ntmps32
  go_wp2_with fail
  refine (rblock_anyX w.heap.size (w.heap.size + 1) x [] false _ (by omega) (by simp only [wtL]; omega) R0 g1).mono ?_
  rintro e w1 ⟨rfl, R1, k1⟩
  have R2 : RefAt w1 (w.heap.size + 1) (encZL x.atoms) (!okL x.atoms) x.odd := by
    have h := R1
    unfold RefL at h
    simpa using h
  have b1 := bA.trans k1.below
  clear R0 R1 g1
  go_wp2_with fail
  refine (rout_any (w.heap.size + 1) _ _ _ _ R2).mono ?_
  rintro e w2 ⟨rfl, b2⟩
  go_wp2
  go_ret2
  exact ⟨rfl, b1.trans (b2.mono b1.size)⟩

end Go.Proofs.Ytgcebahlfgclgaa
