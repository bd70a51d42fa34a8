/- What both sides say of headers, certs and proofs: the same. -/
import Derived.Test.YtcpjcjonlkgblaaXPut
import Derived.Test.YtcpjcjonlkgblaaXWalk3
import Derived.Test.YtcpjcjonlkgblaaXRef3
import Derived.Test.YtcpjcjonlkgblaaXMay3
import Derived.Test.YtcpjcjonlkgblaaM37
namespace Go.Proofs.Ytcpjcjonlkgblaa.W
open Go.RowKit
set_option linter.unusedVariables false
set_option linter.unusedSimpArgs false

theorem put_same {l : List Atom} {odd m : Bool} (hf : fitL l) (ho : okL l = true → odd = !m) :
    resB (if okL l = true then some ([] ++ encL l) else none) m = outB (encZL l) (!okL l) odd ∧ resE (if okL l = true then some ([] ++ encL l) else none) m = outE (!okL l) odd := by
  by_cases h : okL l = true
  · rw [if_pos h, ho h, h, encL_eq l hf h]
    cases m <;> simp [resB, resE, outB, outE]
  · have h' : okL l = false := by simpa using h
    rw [if_neg h, h']
    simp [resB, resE, outB, outE]











set_option maxHeartbeats 1600000 in
theorem wputProof_anyX (x : Proof) (w : World) (hL : wtL x.atoms ≤ 1099400000000) (g : goods w.heap.size w x.flds) :
    Calls Try.prog 55 #[(.agg #[.slice x.tu.la x.tu.xs.length x.tu.lc, .bool x.leaf, .string ⟨x.key.toArray⟩, .string ⟨x.val.toArray⟩])] w fun e w' => e = .returned (.tuple #[.string ⟨(outB (encZL x.atoms) (!okL x.atoms) x.odd).toArray⟩, .int .i64 (outE (!okL x.atoms) x.odd)]) ∧ Below w.heap.size w w' := by
  have g : goods (w.alloc (.cells #[.slice x.tu.la x.tu.xs.length x.tu.lc, .bool x.leaf, .string ⟨x.key.toArray⟩, .string ⟨x.val.toArray⟩] 25)).heap.size (w.alloc (.cells #[.slice x.tu.la x.tu.xs.length x.tu.lc, .bool x.leaf, .string ⟨x.key.toArray⟩, .string ⟨x.val.toArray⟩] 25)) x.flds := (g.below ((Below.refl _ _).alloc (Nat.le_refl _) _)).mono (by simp)
  have hput := put_Proof x (if okL x.atoms = true then some ([] ++ encL x.atoms) else none) x.may (w.alloc (.cells #[.slice x.tu.la x.tu.xs.length x.tu.lc, .bool x.leaf, .string ⟨x.key.toArray⟩, .string ⟨x.val.toArray⟩] 25)) (fun b w5 hP kX hne hb5 => (pproof_anyX (w.alloc (.cells #[.slice x.tu.la x.tu.xs.length x.tu.lc, .bool x.leaf, .string ⟨x.key.toArray⟩, .string ⟨x.val.toArray⟩] 25)).heap.size b (w.alloc (.cells #[.slice x.tu.la x.tu.xs.length x.tu.lc, .bool x.leaf, .string ⟨x.key.toArray⟩, .string ⟨x.val.toArray⟩] 25)).heap.size 0 x [] w5 (by simp; omega) hP (kX.safe (by decide) hne) (CellsAt.of_blk kX (by simp [Vote.flds, Guilt.flds, Cert.flds, Header.flds, Turn.flds, Proof.flds, Sight.flds, Tx.flds, Block.flds, Motion.flds, Known.flds, Message.flds, Record.flds, Fld.val, Lst.fld]) (g.below hb5))).mono fun e w' ⟨h1, h2⟩ => ⟨h1.wrote, h2⟩) (fun w5 h5 => mayProof_anyX x w5 ((g.below h5).mono h5.size))
  rw [(put_same x.fit (fun h => x.odd_may h)).1, (put_same x.fit (fun h => x.odd_may h)).2] at hput
  clear g
  go_enter Try.func55, Try.ntmps55
  go_wp2_with fail
  refine hput.mono ?_
  rintro e w1 ⟨rfl, b1⟩
  go_wp2
  go_ret2
  exact ⟨rfl, ((Below.refl _ _).alloc (Nat.le_refl _) _).trans (b1.mono (by simp))⟩

set_option maxHeartbeats 1600000 in
theorem rputProof_anyX (x : Proof) (w : World) (hL : wtL x.atoms ≤ 1099400000000) (g : goods w.heap.size w x.flds) :
    Calls Try.prog 41 #[(.agg #[.slice x.tu.la x.tu.xs.length x.tu.lc, .bool x.leaf, .string ⟨x.key.toArray⟩, .string ⟨x.val.toArray⟩])] w fun e w' => e = .returned (.tuple #[.string ⟨(outB (encZL x.atoms) (!okL x.atoms) x.odd).toArray⟩, .int .i64 (outE (!okL x.atoms) x.odd)]) ∧ Below w.heap.size w w' := by
  have R0 : RefL ((w.alloc (.cells #[.slice x.tu.la x.tu.xs.length x.tu.lc, .bool x.leaf, .string ⟨x.key.toArray⟩, .string ⟨x.val.toArray⟩] 25)).alloc (.cells #[.string ⟨#[]⟩, .bool false, .bool false] 109)) (w.heap.size + 1) [] false := by
    have h := Blk.new (w.alloc (.cells #[.slice x.tu.la x.tu.xs.length x.tu.lc, .bool x.leaf, .string ⟨x.key.toArray⟩, .string ⟨x.val.toArray⟩] 25)) #[.string ⟨#[]⟩, .bool false, .bool false] 109
    rw [World.size_alloc] at h
    exact h
  have bA : Below w.heap.size w ((w.alloc (.cells #[.slice x.tu.la x.tu.xs.length x.tu.lc, .bool x.leaf, .string ⟨x.key.toArray⟩, .string ⟨x.val.toArray⟩] 25)).alloc (.cells #[.string ⟨#[]⟩, .bool false, .bool false] 109)) := ((Below.refl _ _).alloc (Nat.le_refl _) _).alloc (by simp) _
  have g1 := g.below bA
  clear g
  go_enter Try.func41, Try.ntmps41
  go_wp2_with fail
  refine (rproof_anyX w.heap.size (w.heap.size + 1) x [] false _ (by omega) (by simp only [wtL]; omega) R0 g1).mono ?_
  rintro e w1 ⟨rfl, R1, k1⟩
  have R2 : RefAt w1 (w.heap.size + 1) (encZL x.atoms) (!okL x.atoms) x.odd := by
    have h := R1
    unfold RefL at h
    simpa using h
  have b1 := bA.trans k1.below
  clear R0 R1 g1
  go_wp2_with fail
  refine (rout_any (w.heap.size + 1) _ _ _ _ R2).mono ?_
  rintro e w2 ⟨rfl, b2⟩
  go_wp2
  go_ret2
  exact ⟨rfl, b1.trans (b2.mono b1.size)⟩

end Go.Proofs.Ytcpjcjonlkgblaa.W
