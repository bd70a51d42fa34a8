/- What both sides say of headers, certs and proofs: the same. -/
import Derived.Test.YtblnlfcfjbfhiaaGreatXPut
import Derived.Test.YtblnlfcfjbfhiaaGreatXWalk3
import Derived.Test.YtblnlfcfjbfhiaaGreatXRef3
import Derived.Test.YtblnlfcfjbfhiaaGreatXMay3
import Derived.Test.YtblnlfcfjbfhiaaGreatM32
namespace Go.Proofs.YtblnlfcfjbfhiaaGreat.W
open Go.RowKit
set_option linter.unusedVariables false
set_option linter.unusedSimpArgs false

theorem put_same {l : List Atom} {odd m : Bool} (hf : fitL l) (ho : okL l = true → odd = !m) :
    resB (if okL l = true then some ([] ++ encL l) else none) m = outB (encZL l) (!okL l) odd ∧ resE (if okL l = true then some ([] ++ encL l) else none) m = outE (!okL l) odd := by
  by_cases h : okL l = true
  · rw [if_pos h, ho h, h, encL_eq l hf h]
    cases m <;> simp [resB, resE, outB, outE]
  · have h' : okL l = false := by simpa using h
    rw [if_neg h, h']
    simp [resB, resE, outB, outE]

theorem anyHeader_any (x : Header) (w : World) : Calls Tryz.prog 36 #[.agg #[.int .i64 x.c, .int .i64 x.h, .int .u64 x.pa, .int .u64 x.tx, .int .u64 x.gu, .int .u64 x.st, .int .u64 x.re, .int .u64 x.be, .int .i64 x.pr]] w fun e w' => e = .returned (.bool true) ∧ Below w.heap.size w w' := by
  go_enter Tryz.func36, Tryz.ntmps36
  go_wp2
  go_ret
  exact ⟨rfl, by first | exact Below.refl _ _ | exact (Below.refl _ _).alloc (Nat.le_refl _) _⟩

set_option maxHeartbeats 1600000 in
theorem wputHeader_anyX (x : Header) (w : World) (hL : wtL x.atoms ≤ 1099400000000) (g : goods w.heap.size w x.flds) :
    Calls Tryz.prog 20 #[(.agg #[.int .i64 x.c, .int .i64 x.h, .int .u64 x.pa, .int .u64 x.tx, .int .u64 x.gu, .int .u64 x.st, .int .u64 x.re, .int .u64 x.be, .int .i64 x.pr])] w fun e w' => e = .returned (.tuple #[.string ⟨(outB (encZL x.atoms) (!okL x.atoms) false).toArray⟩, .int .i64 (outE (!okL x.atoms) false)]) ∧ Below w.heap.size w w' := by
  have g : goods (w.alloc (.cells #[.int .i64 x.c, .int .i64 x.h, .int .u64 x.pa, .int .u64 x.tx, .int .u64 x.gu, .int .u64 x.st, .int .u64 x.re, .int .u64 x.be, .int .i64 x.pr] 29)).heap.size (w.alloc (.cells #[.int .i64 x.c, .int .i64 x.h, .int .u64 x.pa, .int .u64 x.tx, .int .u64 x.gu, .int .u64 x.st, .int .u64 x.re, .int .u64 x.be, .int .i64 x.pr] 29)) x.flds := (g.below ((Below.refl _ _).alloc (Nat.le_refl _) _)).mono (by simp)
  have hput := put_Header x (if okL x.atoms = true then some ([] ++ encL x.atoms) else none) true (w.alloc (.cells #[.int .i64 x.c, .int .i64 x.h, .int .u64 x.pa, .int .u64 x.tx, .int .u64 x.gu, .int .u64 x.st, .int .u64 x.re, .int .u64 x.be, .int .i64 x.pr] 29)) (fun b w5 hP kX hne hb5 => (pheader_anyX (w.alloc (.cells #[.int .i64 x.c, .int .i64 x.h, .int .u64 x.pa, .int .u64 x.tx, .int .u64 x.gu, .int .u64 x.st, .int .u64 x.re, .int .u64 x.be, .int .i64 x.pr] 29)).heap.size b (w.alloc (.cells #[.int .i64 x.c, .int .i64 x.h, .int .u64 x.pa, .int .u64 x.tx, .int .u64 x.gu, .int .u64 x.st, .int .u64 x.re, .int .u64 x.be, .int .i64 x.pr] 29)).heap.size 0 x [] w5 (by simp; omega) hP (kX.safe (by decide) hne) (CellsAt.of_blk kX (by simp [Vote.flds, Guilt.flds, Cert.flds, Header.flds, Turn.flds, Proof.flds, Sight.flds, Tx.flds, Block.flds, Motion.flds, Known.flds, Message.flds, Record.flds, Fld.val, Lst.fld]) (g.below hb5))).mono fun e w' ⟨h1, h2⟩ => ⟨h1.wrote, h2⟩) (fun w5 h5 => anyHeader_any x w5)
  rw [(put_same x.fit (fun h => rfl)).1, (put_same x.fit (fun h => rfl)).2] at hput
  clear g
  go_enter Tryz.func20, Tryz.ntmps20
  go_wp2_with fail
  refine hput.mono ?_
  rintro e w1 ⟨rfl, b1⟩
  go_wp2
  go_ret2
  exact ⟨rfl, ((Below.refl _ _).alloc (Nat.le_refl _) _).trans (b1.mono (by simp))⟩

set_option maxHeartbeats 1600000 in
theorem rputHeader_anyX (x : Header) (w : World) (hL : wtL x.atoms ≤ 1099400000000) (g : goods w.heap.size w x.flds) :
    Calls Tryz.prog 22 #[(.agg #[.int .i64 x.c, .int .i64 x.h, .int .u64 x.pa, .int .u64 x.tx, .int .u64 x.gu, .int .u64 x.st, .int .u64 x.re, .int .u64 x.be, .int .i64 x.pr])] w fun e w' => e = .returned (.tuple #[.string ⟨(outB (encZL x.atoms) (!okL x.atoms) false).toArray⟩, .int .i64 (outE (!okL x.atoms) false)]) ∧ Below w.heap.size w w' := by
  have R0 : RefL ((w.alloc (.cells #[.int .i64 x.c, .int .i64 x.h, .int .u64 x.pa, .int .u64 x.tx, .int .u64 x.gu, .int .u64 x.st, .int .u64 x.re, .int .u64 x.be, .int .i64 x.pr] 29)).alloc (.cells #[.string ⟨#[]⟩, .bool false, .bool false] 80)) (w.heap.size + 1) [] false := by
    have h := Blk.new (w.alloc (.cells #[.int .i64 x.c, .int .i64 x.h, .int .u64 x.pa, .int .u64 x.tx, .int .u64 x.gu, .int .u64 x.st, .int .u64 x.re, .int .u64 x.be, .int .i64 x.pr] 29)) #[.string ⟨#[]⟩, .bool false, .bool false] 80
    rw [World.size_alloc] at h
    exact h
  have bA : Below w.heap.size w ((w.alloc (.cells #[.int .i64 x.c, .int .i64 x.h, .int .u64 x.pa, .int .u64 x.tx, .int .u64 x.gu, .int .u64 x.st, .int .u64 x.re, .int .u64 x.be, .int .i64 x.pr] 29)).alloc (.cells #[.string ⟨#[]⟩, .bool false, .bool false] 80)) := ((Below.refl _ _).alloc (Nat.le_refl _) _).alloc (by simp) _
  have g1 := g.below bA
  clear g
  go_enter Tryz.func22, Tryz.ntmps22
  go_wp2_with fail
  refine (rheader_anyX w.heap.size (w.heap.size + 1) x [] false _ (by omega) (by simp only [wtL]; omega) R0 g1).mono ?_
  rintro e w1 ⟨rfl, R1, k1⟩
  have R2 : RefAt w1 (w.heap.size + 1) (encZL x.atoms) (!okL x.atoms) false := by
    have h := R1
    unfold RefL at h
    simpa using h
  have b1 := bA.trans k1.below
  clear R0 R1 g1
  go_wp2_with fail
  refine (rout_any (w.heap.size + 1) _ _ _ _ R2).mono ?_
  rintro e w2 ⟨rfl, b2⟩
  go_wp2
  go_ret2
  exact ⟨rfl, b1.trans (b2.mono b1.size)⟩

set_option maxHeartbeats 1600000 in
theorem wputCert_anyX (x : Cert) (w : World) (hL : wtL x.atoms ≤ 1099400000000) (g : goods w.heap.size w x.flds) :
    Calls Tryz.prog 48 #[(.agg #[.int .i64 x.h, .int .i64 x.r, .int .i64 x.s, .bool x.has, .int .u64 x.bl, .slice x.fr.la x.fr.xs.length x.fr.lc])] w fun e w' => e = .returned (.tuple #[.string ⟨(outB (encZL x.atoms) (!okL x.atoms) x.odd).toArray⟩, .int .i64 (outE (!okL x.atoms) x.odd)]) ∧ Below w.heap.size w w' := by
  have g : goods (w.alloc (.cells #[.int .i64 x.h, .int .i64 x.r, .int .i64 x.s, .bool x.has, .int .u64 x.bl, .slice x.fr.la x.fr.xs.length x.fr.lc] 32)).heap.size (w.alloc (.cells #[.int .i64 x.h, .int .i64 x.r, .int .i64 x.s, .bool x.has, .int .u64 x.bl, .slice x.fr.la x.fr.xs.length x.fr.lc] 32)) x.flds := (g.below ((Below.refl _ _).alloc (Nat.le_refl _) _)).mono (by simp)
  have hput := put_Cert x (if okL x.atoms = true then some ([] ++ encL x.atoms) else none) x.may (w.alloc (.cells #[.int .i64 x.h, .int .i64 x.r, .int .i64 x.s, .bool x.has, .int .u64 x.bl, .slice x.fr.la x.fr.xs.length x.fr.lc] 32)) (fun b w5 hP kX hne hb5 => (pcert_anyX (w.alloc (.cells #[.int .i64 x.h, .int .i64 x.r, .int .i64 x.s, .bool x.has, .int .u64 x.bl, .slice x.fr.la x.fr.xs.length x.fr.lc] 32)).heap.size b (w.alloc (.cells #[.int .i64 x.h, .int .i64 x.r, .int .i64 x.s, .bool x.has, .int .u64 x.bl, .slice x.fr.la x.fr.xs.length x.fr.lc] 32)).heap.size 0 x [] w5 (by simp; omega) hP (kX.safe (by decide) hne) (CellsAt.of_blk kX (by simp [Vote.flds, Guilt.flds, Cert.flds, Header.flds, Turn.flds, Proof.flds, Sight.flds, Tx.flds, Block.flds, Motion.flds, Known.flds, Message.flds, Record.flds, Fld.val, Lst.fld]) (g.below hb5))).mono fun e w' ⟨h1, h2⟩ => ⟨h1.wrote, h2⟩) (fun w5 h5 => mayCert_anyX x w5 ((g.below h5).mono h5.size))
  rw [(put_same x.fit (fun h => x.odd_may h)).1, (put_same x.fit (fun h => x.odd_may h)).2] at hput
  clear g
  go_enter Tryz.func48, Tryz.ntmps48
  go_wp2_with fail
  refine hput.mono ?_
  rintro e w1 ⟨rfl, b1⟩
  go_wp2
  go_ret2
  exact ⟨rfl, ((Below.refl _ _).alloc (Nat.le_refl _) _).trans (b1.mono (by simp))⟩

set_option maxHeartbeats 1600000 in
theorem rputCert_anyX (x : Cert) (w : World) (hL : wtL x.atoms ≤ 1099400000000) (g : goods w.heap.size w x.flds) :
    Calls Tryz.prog 29 #[(.agg #[.int .i64 x.h, .int .i64 x.r, .int .i64 x.s, .bool x.has, .int .u64 x.bl, .slice x.fr.la x.fr.xs.length x.fr.lc])] w fun e w' => e = .returned (.tuple #[.string ⟨(outB (encZL x.atoms) (!okL x.atoms) x.odd).toArray⟩, .int .i64 (outE (!okL x.atoms) x.odd)]) ∧ Below w.heap.size w w' := by
  have R0 : RefL ((w.alloc (.cells #[.int .i64 x.h, .int .i64 x.r, .int .i64 x.s, .bool x.has, .int .u64 x.bl, .slice x.fr.la x.fr.xs.length x.fr.lc] 32)).alloc (.cells #[.string ⟨#[]⟩, .bool false, .bool false] 80)) (w.heap.size + 1) [] false := by
    have h := Blk.new (w.alloc (.cells #[.int .i64 x.h, .int .i64 x.r, .int .i64 x.s, .bool x.has, .int .u64 x.bl, .slice x.fr.la x.fr.xs.length x.fr.lc] 32)) #[.string ⟨#[]⟩, .bool false, .bool false] 80
    rw [World.size_alloc] at h
    exact h
  have bA : Below w.heap.size w ((w.alloc (.cells #[.int .i64 x.h, .int .i64 x.r, .int .i64 x.s, .bool x.has, .int .u64 x.bl, .slice x.fr.la x.fr.xs.length x.fr.lc] 32)).alloc (.cells #[.string ⟨#[]⟩, .bool false, .bool false] 80)) := ((Below.refl _ _).alloc (Nat.le_refl _) _).alloc (by simp) _
  have g1 := g.below bA
  clear g
  go_enter Tryz.func29, Tryz.ntmps29
  go_wp2_with fail
  refine (rcert_anyX w.heap.size (w.heap.size + 1) x [] false _ (by omega) (by simp only [wtL]; omega) R0 g1).mono ?_
  rintro e w1 ⟨rfl, R1, k1⟩
  have R2 : RefAt w1 (w.heap.size + 1) (encZL x.atoms) (!okL x.atoms) x.odd := by
    have h := R1
    unfold RefL at h
    simpa using h
  have b1 := bA.trans k1.below
  clear R0 R1 g1
  go_wp2_with fail
  refine (rout_any (w.heap.size + 1) _ _ _ _ R2).mono ?_
  rintro e w2 ⟨rfl, b2⟩
  go_wp2
  go_ret2
  exact ⟨rfl, b1.trans (b2.mono b1.size)⟩





end Go.Proofs.YtblnlfcfjbfhiaaGreat.W
