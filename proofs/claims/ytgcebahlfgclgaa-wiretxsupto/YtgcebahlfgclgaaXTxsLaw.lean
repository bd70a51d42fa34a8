/- WireTxs, where what it reads is of bulk at most 1048576: of every transaction, proof, header and cert Put of the program says what the answer says. The condition: the bound on the bulk. -/
import Derived.Test.YtgcebahlfgclgaaRows
import Derived.Test.YtgcebahlfgclgaaXTop2
import Derived.Test.YtgcebahlfgclgaaXOpen
import Derived.Test.YtgcebahlfgclgaaXHeavy
import Derived.WalkKit
import Derived.ProofKit
import Derived.OpenShut
import Derived.ShutString
import Derived.ChangeOld
import Derived.ChangeArms
import Derived.Below
import Derived.JoinedCond
import Derived.Deep.CutRange
import Derived.Deep.DeepCutAuto
namespace Go.Proofs.Ytgcebahlfgclgaa.wireTxs
open Go.ChangeShapes Go.WideShapes Go.ChangeAt Go.RowKit
set_option linter.unusedVariables false
set_option linter.unusedSimpArgs false

theorem own : ownKnob Try.prog.godebug = none := by kernel_rfl
theorem laidOut : laidOutB Try.prog = true := by kernel_rfl

theorem Proof.lens (p : Proof) (h : wtL p.atoms ≤ 1099400000000) : p.tu.xs.length ≤ 1099400000000 ∧ p.key.length ≤ 1099400000000 ∧ p.val.length ≤ 1099400000000 := by
  have key : ∀ xs : List Turn, xs.length ≤ wtL (eachL Turn.atoms xs) := by
    intro xs
    induction xs with
    | nil => simp
    | cons y r ih => simp only [eachL, wtL_append, Turn.atoms, wtL, Atom.wt, List.length_cons]; omega
  have := key p.tu.xs
  simp only [Proof.atoms, wtL_append, listL, textL, flagL, wtL, Atom.wt] at h
  omega
theorem Cert.lens (p : Cert) (h : wtL p.atoms ≤ 1099400000000) : p.fr.xs.length ≤ 1099400000000 := by
  have key : ∀ xs : List Int, xs.length ≤ wtL (eachL intA xs) := by
    intro xs
    induction xs with
    | nil => simp
    | cons y r ih => simp only [eachL, wtL_append, intA, wtL, Atom.wt, List.length_cons]; omega
  have := key p.fr.xs
  simp only [Cert.atoms, wtL_append, listL, wtL] at h
  omega

set_option maxRecDepth 20000 in
set_option maxHeartbeats 12800000 in
theorem walk (t : Tx) (p : Proof) (h : Header) (c : Cert) (w : World) (ht : wtL t.atoms ≤ 1099400000000) (hp : wtL p.atoms ≤ 1099400000000) (hh : wtL h.atoms ≤ 1099400000000) (hc : wtL c.atoms ≤ 1099400000000)
    (gt : goods w.heap.size w t.flds) (gp : goods w.heap.size w p.flds) (gh : goods w.heap.size w h.flds) (gc : goods w.heap.size w c.flds) :
    Calls Try.prog 4 #[.agg #[.int .i64 t.k, .int .i64 t.f, .int .i64 t.n, .int .i64 t.p, .int .i64 t.li, .int .i64 t.to, .int .i64 t.am, .string ⟨t.te.toArray⟩, .slice t.ar.la t.ar.xs.length t.ar.lc, .slice t.si.la t.si.xs.length t.si.lc, .slice t.pr.la t.pr.xs.length t.pr.lc], .agg #[.slice p.tu.la p.tu.xs.length p.tu.lc, .bool p.leaf, .string ⟨p.key.toArray⟩, .string ⟨p.val.toArray⟩], .agg #[.int .i64 h.c, .int .i64 h.h, .int .u64 h.pa, .int .u64 h.tx, .int .u64 h.gu, .int .u64 h.st, .int .u64 h.re, .int .u64 h.be, .int .i64 h.pr], .agg #[.int .i64 c.h, .int .i64 c.r, .int .i64 c.s, .bool c.has, .int .u64 c.bl, .slice c.fr.la c.fr.xs.length c.fr.lc]] w fun e w' => e = .returned (.bool true) ∧ Below w.heap.size w w' := by
  obtain ⟨S0, E0, cw0, cr0⟩ : ∃ (S : ByteArray) (E : Int), (∀ y : World, Below w.heap.size w y → Calls Try.prog 23 #[.agg #[.int .i64 t.k, .int .i64 t.f, .int .i64 t.n, .int .i64 t.p, .int .i64 t.li, .int .i64 t.to, .int .i64 t.am, .string ⟨t.te.toArray⟩, .slice t.ar.la t.ar.xs.length t.ar.lc, .slice t.si.la t.si.xs.length t.si.lc, .slice t.pr.la t.pr.xs.length t.pr.lc]] y fun e w' => e = .returned (.tuple #[.string S, .int .i64 E]) ∧ Below y.heap.size y w') ∧ (∀ y : World, Below w.heap.size w y → Calls Try.prog 24 #[.agg #[.int .i64 t.k, .int .i64 t.f, .int .i64 t.n, .int .i64 t.p, .int .i64 t.li, .int .i64 t.to, .int .i64 t.am, .string ⟨t.te.toArray⟩, .slice t.ar.la t.ar.xs.length t.ar.lc, .slice t.si.la t.si.xs.length t.si.lc, .slice t.pr.la t.pr.xs.length t.pr.lc]] y fun e w' => e = .returned (.tuple #[.string S, .int .i64 E]) ∧ Below y.heap.size y w') :=
    ⟨_, _, fun y hy => wputTx_anyX t y ht ((gt.below hy).mono hy.size), fun y hy => rputTx_anyX t y ht ((gt.below hy).mono hy.size)⟩
  obtain ⟨S1, E1, cw1, cr1⟩ : ∃ (S : ByteArray) (E : Int), (∀ y : World, Below w.heap.size w y → Calls Try.prog 25 #[.agg #[.slice p.tu.la p.tu.xs.length p.tu.lc, .bool p.leaf, .string ⟨p.key.toArray⟩, .string ⟨p.val.toArray⟩]] y fun e w' => e = .returned (.tuple #[.string S, .int .i64 E]) ∧ Below y.heap.size y w') ∧ (∀ y : World, Below w.heap.size w y → Calls Try.prog 26 #[.agg #[.slice p.tu.la p.tu.xs.length p.tu.lc, .bool p.leaf, .string ⟨p.key.toArray⟩, .string ⟨p.val.toArray⟩]] y fun e w' => e = .returned (.tuple #[.string S, .int .i64 E]) ∧ Below y.heap.size y w') :=
    ⟨_, _, fun y hy => wputProof_anyX p y hp ((gp.below hy).mono hy.size), fun y hy => rputProof_anyX p y hp ((gp.below hy).mono hy.size)⟩
  obtain ⟨S2, E2, cw2, cr2⟩ : ∃ (S : ByteArray) (E : Int), (∀ y : World, Below w.heap.size w y → Calls Try.prog 27 #[.agg #[.int .i64 h.c, .int .i64 h.h, .int .u64 h.pa, .int .u64 h.tx, .int .u64 h.gu, .int .u64 h.st, .int .u64 h.re, .int .u64 h.be, .int .i64 h.pr]] y fun e w' => e = .returned (.tuple #[.string S, .int .i64 E]) ∧ Below y.heap.size y w') ∧ (∀ y : World, Below w.heap.size w y → Calls Try.prog 28 #[.agg #[.int .i64 h.c, .int .i64 h.h, .int .u64 h.pa, .int .u64 h.tx, .int .u64 h.gu, .int .u64 h.st, .int .u64 h.re, .int .u64 h.be, .int .i64 h.pr]] y fun e w' => e = .returned (.tuple #[.string S, .int .i64 E]) ∧ Below y.heap.size y w') :=
    ⟨_, _, fun y hy => wputHeader_anyX h y hh ((gh.below hy).mono hy.size), fun y hy => rputHeader_anyX h y hh ((gh.below hy).mono hy.size)⟩
  obtain ⟨S3, E3, cw3, cr3⟩ : ∃ (S : ByteArray) (E : Int), (∀ y : World, Below w.heap.size w y → Calls Try.prog 29 #[.agg #[.int .i64 c.h, .int .i64 c.r, .int .i64 c.s, .bool c.has, .int .u64 c.bl, .slice c.fr.la c.fr.xs.length c.fr.lc]] y fun e w' => e = .returned (.tuple #[.string S, .int .i64 E]) ∧ Below y.heap.size y w') ∧ (∀ y : World, Below w.heap.size w y → Calls Try.prog 30 #[.agg #[.int .i64 c.h, .int .i64 c.r, .int .i64 c.s, .bool c.has, .int .u64 c.bl, .slice c.fr.la c.fr.xs.length c.fr.lc]] y fun e w' => e = .returned (.tuple #[.string S, .int .i64 E]) ∧ Below y.heap.size y w') :=
    ⟨_, _, fun y hy => wputCert_anyX c y hc ((gc.below hy).mono hy.size), fun y hy => rputCert_anyX c y hc ((gc.below hy).mono hy.size)⟩
  obtain ⟨lp1, lp2, lp3⟩ := Proof.lens p hp
  have lc1 := Cert.lens c hc
  have kT := (((Blk.new w #[.int .i64 t.k, .int .i64 t.f, .int .i64 t.n, .int .i64 t.p, .int .i64 t.li, .int .i64 t.to, .int .i64 t.am, .string ⟨t.te.toArray⟩, .slice t.ar.la t.ar.xs.length t.ar.lc, .slice t.si.la t.si.xs.length t.si.lc, .slice t.pr.la t.pr.xs.length t.pr.lc] 53).alloc (.cells #[.slice p.tu.la p.tu.xs.length p.tu.lc, .bool p.leaf, .string ⟨p.key.toArray⟩, .string ⟨p.val.toArray⟩] 56)).alloc (.cells #[.int .i64 h.c, .int .i64 h.h, .int .u64 h.pa, .int .u64 h.tx, .int .u64 h.gu, .int .u64 h.st, .int .u64 h.re, .int .u64 h.be, .int .i64 h.pr] 58)).alloc (.cells #[.int .i64 c.h, .int .i64 c.r, .int .i64 c.s, .bool c.has, .int .u64 c.bl, .slice c.fr.la c.fr.xs.length c.fr.lc] 60)
  have kP := ((Blk.new (w.alloc (.cells #[.int .i64 t.k, .int .i64 t.f, .int .i64 t.n, .int .i64 t.p, .int .i64 t.li, .int .i64 t.to, .int .i64 t.am, .string ⟨t.te.toArray⟩, .slice t.ar.la t.ar.xs.length t.ar.lc, .slice t.si.la t.si.xs.length t.si.lc, .slice t.pr.la t.pr.xs.length t.pr.lc] 53)) #[.slice p.tu.la p.tu.xs.length p.tu.lc, .bool p.leaf, .string ⟨p.key.toArray⟩, .string ⟨p.val.toArray⟩] 56).alloc (.cells #[.int .i64 h.c, .int .i64 h.h, .int .u64 h.pa, .int .u64 h.tx, .int .u64 h.gu, .int .u64 h.st, .int .u64 h.re, .int .u64 h.be, .int .i64 h.pr] 58)).alloc (.cells #[.int .i64 c.h, .int .i64 c.r, .int .i64 c.s, .bool c.has, .int .u64 c.bl, .slice c.fr.la c.fr.xs.length c.fr.lc] 60)
  have kH := (Blk.new ((w.alloc (.cells #[.int .i64 t.k, .int .i64 t.f, .int .i64 t.n, .int .i64 t.p, .int .i64 t.li, .int .i64 t.to, .int .i64 t.am, .string ⟨t.te.toArray⟩, .slice t.ar.la t.ar.xs.length t.ar.lc, .slice t.si.la t.si.xs.length t.si.lc, .slice t.pr.la t.pr.xs.length t.pr.lc] 53)).alloc (.cells #[.slice p.tu.la p.tu.xs.length p.tu.lc, .bool p.leaf, .string ⟨p.key.toArray⟩, .string ⟨p.val.toArray⟩] 56)) #[.int .i64 h.c, .int .i64 h.h, .int .u64 h.pa, .int .u64 h.tx, .int .u64 h.gu, .int .u64 h.st, .int .u64 h.re, .int .u64 h.be, .int .i64 h.pr] 58).alloc (.cells #[.int .i64 c.h, .int .i64 c.r, .int .i64 c.s, .bool c.has, .int .u64 c.bl, .slice c.fr.la c.fr.xs.length c.fr.lc] 60)
  have kC := Blk.new (((w.alloc (.cells #[.int .i64 t.k, .int .i64 t.f, .int .i64 t.n, .int .i64 t.p, .int .i64 t.li, .int .i64 t.to, .int .i64 t.am, .string ⟨t.te.toArray⟩, .slice t.ar.la t.ar.xs.length t.ar.lc, .slice t.si.la t.si.xs.length t.si.lc, .slice t.pr.la t.pr.xs.length t.pr.lc] 53)).alloc (.cells #[.slice p.tu.la p.tu.xs.length p.tu.lc, .bool p.leaf, .string ⟨p.key.toArray⟩, .string ⟨p.val.toArray⟩] 56)).alloc (.cells #[.int .i64 h.c, .int .i64 h.h, .int .u64 h.pa, .int .u64 h.tx, .int .u64 h.gu, .int .u64 h.st, .int .u64 h.re, .int .u64 h.be, .int .i64 h.pr] 58)) #[.int .i64 c.h, .int .i64 c.r, .int .i64 c.s, .bool c.has, .int .u64 c.bl, .slice c.fr.la c.fr.xs.length c.fr.lc] 60
  have bw : Below w.heap.size w ((((w.alloc (.cells #[.int .i64 t.k, .int .i64 t.f, .int .i64 t.n, .int .i64 t.p, .int .i64 t.li, .int .i64 t.to, .int .i64 t.am, .string ⟨t.te.toArray⟩, .slice t.ar.la t.ar.xs.length t.ar.lc, .slice t.si.la t.si.xs.length t.si.lc, .slice t.pr.la t.pr.xs.length t.pr.lc] 53)).alloc (.cells #[.slice p.tu.la p.tu.xs.length p.tu.lc, .bool p.leaf, .string ⟨p.key.toArray⟩, .string ⟨p.val.toArray⟩] 56)).alloc (.cells #[.int .i64 h.c, .int .i64 h.h, .int .u64 h.pa, .int .u64 h.tx, .int .u64 h.gu, .int .u64 h.st, .int .u64 h.re, .int .u64 h.be, .int .i64 h.pr] 58)).alloc (.cells #[.int .i64 c.h, .int .i64 c.r, .int .i64 c.s, .bool c.has, .int .u64 c.bl, .slice c.fr.la c.fr.xs.length c.fr.lc] 60)) := ((((Below.refl w.heap.size w).alloc (by exact Nat.le_refl _) _).alloc (by simp only [World.size_alloc]; omega) _).alloc (by simp only [World.size_alloc]; omega) _).alloc (by simp only [World.size_alloc]; omega) _
  simp only [World.size_alloc, Nat.add_assoc, Nat.reduceAdd] at kP kH kC
  have key : ∀ y : World, Below w.heap.size w y → Calls Try.prog 22 #[.slice (some ⟨y.heap.size, 0, none⟩) 1 1] (y.alloc (.cells #[.int .i64 t.k, .int .i64 t.f, .int .i64 t.n, .int .i64 t.p, .int .i64 t.li, .int .i64 t.to, .int .i64 t.am, .string ⟨t.te.toArray⟩, .slice t.ar.la t.ar.xs.length t.ar.lc, .slice t.si.la t.si.xs.length t.si.lc, .slice t.pr.la t.pr.xs.length t.pr.lc] 53)) fun e w' => IsBool e ∧ Below (y.alloc (.cells #[.int .i64 t.k, .int .i64 t.f, .int .i64 t.n, .int .i64 t.p, .int .i64 t.li, .int .i64 t.to, .int .i64 t.am, .string ⟨t.te.toArray⟩, .slice t.ar.la t.ar.xs.length t.ar.lc, .slice t.si.la t.si.xs.length t.si.lc, .slice t.pr.la t.pr.xs.length t.pr.lc] 53)).heap.size (y.alloc (.cells #[.int .i64 t.k, .int .i64 t.f, .int .i64 t.n, .int .i64 t.p, .int .i64 t.li, .int .i64 t.to, .int .i64 t.am, .string ⟨t.te.toArray⟩, .slice t.ar.la t.ar.xs.length t.ar.lc, .slice t.si.la t.si.xs.length t.si.lc, .slice t.pr.la t.pr.xs.length t.pr.lc] 53)) w' := fun y hy => by
    have kN := Blk.new y #[.int .i64 t.k, .int .i64 t.f, .int .i64 t.n, .int .i64 t.p, .int .i64 t.li, .int .i64 t.to, .int .i64 t.am, .string ⟨t.te.toArray⟩, .slice t.ar.la t.ar.xs.length t.ar.lc, .slice t.si.la t.si.xs.length t.si.lc, .slice t.pr.la t.pr.xs.length t.pr.lc] 53
    refine heavy_any (y.alloc (.cells #[.int .i64 t.k, .int .i64 t.f, .int .i64 t.n, .int .i64 t.p, .int .i64 t.li, .int .i64 t.to, .int .i64 t.am, .string ⟨t.te.toArray⟩, .slice t.ar.la t.ar.xs.length t.ar.lc, .slice t.si.la t.si.xs.length t.si.lc, .slice t.pr.la t.pr.xs.length t.pr.lc] 53)).heap.size ⟨some ⟨y.heap.size, 0, none⟩, 1, [t]⟩ _ (Nat.le_refl _) ⟨by simp, by show 1 ≤ maxLen; unfold maxLen; omega, .inr ⟨y.heap.size, 0, rfl, by simp, by simp, fun i x hx => ?_⟩⟩
    have hi : i = 0 := by
      have := (List.getElem?_eq_some_iff.1 hx).1
      simpa using this
    subst hi
    obtain rfl : t = x := by simpa using hx
    rw [Nat.zero_mul, Nat.add_zero]
    exact CellsAt.of_blk kN (by simp [Vote.flds, Guilt.flds, Cert.flds, Header.flds, Turn.flds, Proof.flds, Sight.flds, Tx.flds, Block.flds, Motion.flds, Known.flds, Message.flds, Record.flds, Fld.val, Lst.fld]) ((gt.below (hy.alloc hy.size _)).mono (by simp; have := hy.size; omega))
  have key2 := key _ bw
  simp only [World.size_alloc, Nat.add_assoc, Nat.reduceAdd] at key2
  have hS : ((((w.alloc (.cells #[.int .i64 t.k, .int .i64 t.f, .int .i64 t.n, .int .i64 t.p, .int .i64 t.li, .int .i64 t.to, .int .i64 t.am, .string ⟨t.te.toArray⟩, .slice t.ar.la t.ar.xs.length t.ar.lc, .slice t.si.la t.si.xs.length t.si.lc, .slice t.pr.la t.pr.xs.length t.pr.lc] 53)).alloc (.cells #[.slice p.tu.la p.tu.xs.length p.tu.lc, .bool p.leaf, .string ⟨p.key.toArray⟩, .string ⟨p.val.toArray⟩] 56)).alloc (.cells #[.int .i64 h.c, .int .i64 h.h, .int .u64 h.pa, .int .u64 h.tx, .int .u64 h.gu, .int .u64 h.st, .int .u64 h.re, .int .u64 h.be, .int .i64 h.pr] 58)).alloc (.cells #[.int .i64 c.h, .int .i64 c.r, .int .i64 c.s, .bool c.has, .int .u64 c.bl, .slice c.fr.la c.fr.xs.length c.fr.lc] 60)).heap.size = w.heap.size + 4 := by simp only [World.size_alloc, Nat.add_assoc, Nat.reduceAdd]
  clear gt gp gh gc ht hp hh hc key
  go_enter Try.func4, Try.ntmps4
  go_wp2_with fail
  generalize hWA : ((((w.alloc (.cells #[.int .i64 t.k, .int .i64 t.f, .int .i64 t.n, .int .i64 t.p, .int .i64 t.li, .int .i64 t.to, .int .i64 t.am, .string ⟨t.te.toArray⟩, .slice t.ar.la t.ar.xs.length t.ar.lc, .slice t.si.la t.si.xs.length t.si.lc, .slice t.pr.la t.pr.xs.length t.pr.lc] 53)).alloc (.cells #[.slice p.tu.la p.tu.xs.length p.tu.lc, .bool p.leaf, .string ⟨p.key.toArray⟩, .string ⟨p.val.toArray⟩] 56)).alloc (.cells #[.int .i64 h.c, .int .i64 h.h, .int .u64 h.pa, .int .u64 h.tx, .int .u64 h.gu, .int .u64 h.st, .int .u64 h.re, .int .u64 h.be, .int .i64 h.pr] 58)).alloc (.cells #[.int .i64 c.h, .int .i64 c.r, .int .i64 c.s, .bool c.has, .int .u64 c.bl, .slice c.fr.la c.fr.xs.length c.fr.lc] 60)) = wA at *
  clear hWA
  refine key2.mono ?_
  rintro e w0 ⟨⟨z, rfl⟩, b0⟩
  have B0 : Below wA.heap.size wA w0 := ((Below.refl _ _).alloc (Nat.le_refl _) _).trans (b0.mono (by omega))
  have bw0 := bw.trans (B0.mono bw.size)
  clear key2
  have HS := show Hid (_ = _) from hS
  clear hS
  cases z
  rotate_left
  · go_wp2
    go_ret
    exact ⟨rfl, bw0⟩
  have TP := kP.below B0 kP.lt
  have TC := kC.below B0 kC.lt
  have p0 := TP.cell 0
  have p2 := TP.cell 2
  have p3 := TP.cell 3
  have c5 := TC.cell 5
  simp only [List.getElem?_toArray, List.getElem?_cons_succ, List.getElem?_cons_zero] at p0 p2 p3 c5
  have hz1 := TP.lt
  have hz2 := TC.lt
  by_cases hbig : (65536 : Int) < (p.tu.xs.length : Int) + (p.key.length : Int) + (p.val.length : Int) + (c.fr.xs.length : Int)
  · have hbd : decide ((65536 : Int) < (p.tu.xs.length : Int) + (p.key.length : Int) + (p.val.length : Int) + (c.fr.xs.length : Int)) = true := decide_eq_true hbig
    go_wp2
    go_ret
    exact ⟨rfl, bw0⟩
  have hbd : decide ((65536 : Int) < (p.tu.xs.length : Int) + (p.key.length : Int) + (p.val.length : Int) + (c.fr.xs.length : Int)) = false := decide_eq_false hbig
  clear TP TC
  have T := kT.below B0 kT.lt
  have q0 := T.cell 0
  have q1 := T.cell 1
  have q2 := T.cell 2
  have q3 := T.cell 3
  have q4 := T.cell 4
  have q5 := T.cell 5
  have q6 := T.cell 6
  have q7 := T.cell 7
  have q8 := T.cell 8
  have q9 := T.cell 9
  have q10 := T.cell 10
  simp only [List.getElem?_toArray, List.getElem?_cons_succ, List.getElem?_cons_zero] at q0 q1 q2 q3 q4 q5 q6 q7 q8 q9 q10
  have hz := T.lt
  clear T
  go_wp2_with fail
  clear p0 p2 p3 c5 hz1 hz2
  refine (cw0 _ (bw.trans (B0.mono bw.size))).mono ?_
  rintro e w1 ⟨rfl, b1⟩
  have B1 := B0.trans (b1.mono B0.size)
  clear q0 q1 q2 q3 q4 q5 q6 q7 q8 q9 q10 hz
  have T := kT.below B1 kT.lt
  have q0 := T.cell 0
  have q1 := T.cell 1
  have q2 := T.cell 2
  have q3 := T.cell 3
  have q4 := T.cell 4
  have q5 := T.cell 5
  have q6 := T.cell 6
  have q7 := T.cell 7
  have q8 := T.cell 8
  have q9 := T.cell 9
  have q10 := T.cell 10
  simp only [List.getElem?_toArray, List.getElem?_cons_succ, List.getElem?_cons_zero] at q0 q1 q2 q3 q4 q5 q6 q7 q8 q9 q10
  have hz := T.lt
  clear T
  go_wp2_with fail
  refine (cr0 _ (bw.trans (B1.mono bw.size))).mono ?_
  rintro e w2 ⟨rfl, b2⟩
  have B2 := B1.trans (b2.mono B1.size)
  clear q0 q1 q2 q3 q4 q5 q6 q7 q8 q9 q10 hz
  have T := kP.below B2 kP.lt
  have q0 := T.cell 0
  have q1 := T.cell 1
  have q2 := T.cell 2
  have q3 := T.cell 3
  simp only [List.getElem?_toArray, List.getElem?_cons_succ, List.getElem?_cons_zero] at q0 q1 q2 q3
  have hz := T.lt
  clear T
  go_wp2_with fail
  refine (cw1 _ (bw.trans (B2.mono bw.size))).mono ?_
  rintro e w3 ⟨rfl, b3⟩
  have B3 := B2.trans (b3.mono B2.size)
  clear q0 q1 q2 q3 hz
  have T := kP.below B3 kP.lt
  have q0 := T.cell 0
  have q1 := T.cell 1
  have q2 := T.cell 2
  have q3 := T.cell 3
  simp only [List.getElem?_toArray, List.getElem?_cons_succ, List.getElem?_cons_zero] at q0 q1 q2 q3
  have hz := T.lt
  clear T
  go_wp2_with fail
  refine (cr1 _ (bw.trans (B3.mono bw.size))).mono ?_
  rintro e w4 ⟨rfl, b4⟩
  have B4 := B3.trans (b4.mono B3.size)
  clear q0 q1 q2 q3 hz
  have T := kH.below B4 kH.lt
  have q0 := T.cell 0
  have q1 := T.cell 1
  have q2 := T.cell 2
  have q3 := T.cell 3
  have q4 := T.cell 4
  have q5 := T.cell 5
  have q6 := T.cell 6
  have q7 := T.cell 7
  have q8 := T.cell 8
  simp only [List.getElem?_toArray, List.getElem?_cons_succ, List.getElem?_cons_zero] at q0 q1 q2 q3 q4 q5 q6 q7 q8
  have hz := T.lt
  clear T
  go_wp2_with fail
  refine (cw2 _ (bw.trans (B4.mono bw.size))).mono ?_
  rintro e w5 ⟨rfl, b5⟩
  have B5 := B4.trans (b5.mono B4.size)
  clear q0 q1 q2 q3 q4 q5 q6 q7 q8 hz
  have T := kH.below B5 kH.lt
  have q0 := T.cell 0
  have q1 := T.cell 1
  have q2 := T.cell 2
  have q3 := T.cell 3
  have q4 := T.cell 4
  have q5 := T.cell 5
  have q6 := T.cell 6
  have q7 := T.cell 7
  have q8 := T.cell 8
  simp only [List.getElem?_toArray, List.getElem?_cons_succ, List.getElem?_cons_zero] at q0 q1 q2 q3 q4 q5 q6 q7 q8
  have hz := T.lt
  clear T
  go_wp2_with fail
  refine (cr2 _ (bw.trans (B5.mono bw.size))).mono ?_
  rintro e w6 ⟨rfl, b6⟩
  have B6 := B5.trans (b6.mono B5.size)
  clear q0 q1 q2 q3 q4 q5 q6 q7 q8 hz
  have T := kC.below B6 kC.lt
  have q0 := T.cell 0
  have q1 := T.cell 1
  have q2 := T.cell 2
  have q3 := T.cell 3
  have q4 := T.cell 4
  have q5 := T.cell 5
  simp only [List.getElem?_toArray, List.getElem?_cons_succ, List.getElem?_cons_zero] at q0 q1 q2 q3 q4 q5
  have hz := T.lt
  clear T
  go_wp2_with fail
  refine (cw3 _ (bw.trans (B6.mono bw.size))).mono ?_
  rintro e w7 ⟨rfl, b7⟩
  have B7 := B6.trans (b7.mono B6.size)
  clear q0 q1 q2 q3 q4 q5 hz
  have T := kC.below B7 kC.lt
  have q0 := T.cell 0
  have q1 := T.cell 1
  have q2 := T.cell 2
  have q3 := T.cell 3
  have q4 := T.cell 4
  have q5 := T.cell 5
  simp only [List.getElem?_toArray, List.getElem?_cons_succ, List.getElem?_cons_zero] at q0 q1 q2 q3 q4 q5
  have hz := T.lt
  clear T
  go_wp2_with fail
  refine (cr3 _ (bw.trans (B7.mono bw.size))).mono ?_
  rintro e w8 ⟨rfl, b8⟩
  have B8 := B7.trans (b8.mono B7.size)
  clear q0 q1 q2 q3 q4 q5 hz
  go_wp2
  go_ret
  exact ⟨by simp, bw.trans (B8.mono bw.size)⟩

set_option maxRecDepth 100000 in
set_option maxHeartbeats 8000000 in
theorem lifted (os : Os) (started : os.Started) (H : Type) (enc : TypeId × Value → H) (F : Stop.Interp) :
    ReturnsInHanded {} Try.checked os 4 .any ((Rows.OpenSpec.upto Rows.wireTxsSpec).pre6 enc Try.prog Try.f4 Rows.wireTxsUptoRow.domain false) (((Rows.OpenSpec.upto Rows.wireTxsSpec).at F).post enc Try.prog Try.f4 false true false false) := by
  refine returnsInHanded_of_cond (C := Try.checked) (s := Rows.OpenSpec.upto Rows.wireTxsSpec) (k := Rows.uptoSmall) rfl own started (by kernel_rfl) Try.func4
    (OpenSpec.witness (enc := enc) (C := Try.checked) (s := Rows.OpenSpec.upto Rows.wireTxsSpec) (k := Rows.uptoSmall) rfl false ⟨#[], #[.agg #[.int .i64 0, .int .i64 0, .int .i64 0, .int .i64 0, .int .i64 0, .int .i64 0, .int .i64 0, .string .empty, .slice none 0 0, .slice none 0 0, .slice none 0 0], .agg #[.slice none 0 0, .bool false, .string .empty, .string .empty], .agg #[.int .i64 0, .int .i64 0, .int .u64 0, .int .u64 0, .int .u64 0, .int .u64 0, .int .u64 0, .int .u64 0, .int .i64 0], .agg #[.int .i64 0, .int .i64 0, .int .i64 0, .bool false, .int .u64 0, .slice none 0 0]], []⟩ 8 (by kernel_rfl) (by kernel_rfl) (by kernel_rfl)
      (x := ([.agg [.lit (.int .i64 0), .lit (.int .i64 0), .lit (.int .i64 0), .lit (.int .i64 0), .lit (.int .i64 0), .lit (.int .i64 0), .lit (.int .i64 0), .lit (.string []), .nil, .nil, .nil], .agg [.nil, .lit (.bool false), .lit (.string []), .lit (.string [])], .agg [.lit (.int .i64 0), .lit (.int .i64 0), .lit (.int .u64 0), .lit (.int .u64 0), .lit (.int .u64 0), .lit (.int .u64 0), .lit (.int .u64 0), .lit (.int .u64 0), .lit (.int .i64 0)], .agg [.lit (.int .i64 0), .lit (.int .i64 0), .lit (.int .i64 0), .lit (.bool false), .lit (.int .u64 0), .nil]], [], [])) (by kernel_rfl) rfl (by kernel_rfl)) ?_
  intro W base args ds gs before hval0 hW _ hk0 _
  have hval : ∀ (j : Nat) t v, Try.f4.params[j]? = some t → args[j]? = some v → Value.okWide Try.prog W .any base t v := hval0
  have hk : Rows.uptoSmall H (ds ++ gs) = true := hk0
  have hW' := hW
  obtain ⟨p, q, hA0, hV, rfl, hfz, hnd⟩ := hW
  have hA : DataW.TrodAll enc Try.prog W 0 (fun _ => true) true Try.f4.params.toList args.toList ds p := hA0
  rw [Try.params4] at hA hval
  obtain ⟨v0, vs0, d0, ds0, pp0, qq0, hargs, rfl, rfl, h0, r0⟩ := trodAll_cons hA
  obtain ⟨v1, vs1, d1, ds1, pp1, qq1, rfl, rfl, rfl, h1, r1⟩ := trodAll_cons r0
  obtain ⟨v2, vs2, d2, ds2, pp2, qq2, rfl, rfl, rfl, h2, r2⟩ := trodAll_cons r1
  obtain ⟨v3, vs3, d3, ds3, pp3, qq3, rfl, rfl, rfl, h3, r3⟩ := trodAll_cons r2
  obtain ⟨rfl, rfl, rfl⟩ := trodAll_nil r3
  obtain rfl : args = #[v0, v1, v2, v3] := by cases args; simp_all
  obtain ⟨rfl, rfl⟩ := trodVars_none hV
  have hbk : Rows.uptoBulkAll [d0, d1, d2, d3] ≤ 1048576 := by
    have h := of_decide_eq_true hk
    simpa using h
  simp only [Rows.uptoBulkAll] at hbk
  have k0 := h0
  have lt0 : ∀ x ∈ pp0, x.block < W.heap.size := by obtain ⟨m, hm⟩ := k0; exact DataW.trod_lt m _ _ _ hm
  obtain ⟨fu0, hf0⟩ := h0
  obtain ⟨cs0, rfl, hcs0⟩ := okWide_struct Try.underlying53 (hval 0 53 v0 rfl rfl)
  have g0 : DataW.trod enc Try.prog W 0 (fun _ => true) true fu0 53 cs0.toList = some (d0, pp0) := hf0
  obtain ⟨t, e0, gd0, b0⟩ := open_Tx enc W (fun _ => true) _ _ _ g0
  have ea0 : cs0 = #[.int .i64 t.k, .int .i64 t.f, .int .i64 t.n, .int .i64 t.p, .int .i64 t.li, .int .i64 t.to, .int .i64 t.am, .string ⟨t.te.toArray⟩, .slice t.ar.la t.ar.xs.length t.ar.lc, .slice t.si.la t.si.xs.length t.si.lc, .slice t.pr.la t.pr.xs.length t.pr.lc] := by
    apply Array.ext'
    rw [e0]
    simp [Vote.flds, Guilt.flds, Cert.flds, Header.flds, Turn.flds, Proof.flds, Sight.flds, Tx.flds, Block.flds, Motion.flds, Known.flds, Message.flds, Record.flds, Fld.val, Lst.fld]
  subst ea0
  have k1 := h1
  have lt1 : ∀ x ∈ pp1, x.block < W.heap.size := by obtain ⟨m, hm⟩ := k1; exact DataW.trod_lt m _ _ _ hm
  obtain ⟨fu1, hf1⟩ := h1
  obtain ⟨cs1, rfl, hcs1⟩ := okWide_struct Try.underlying56 (hval 1 56 v1 rfl rfl)
  have g1 : DataW.trod enc Try.prog W 0 (fun _ => true) true fu1 56 cs1.toList = some (d1, pp1) := hf1
  obtain ⟨p, e1, gd1, b1⟩ := open_Proof enc W (fun _ => true) _ _ _ g1
  have ea1 : cs1 = #[.slice p.tu.la p.tu.xs.length p.tu.lc, .bool p.leaf, .string ⟨p.key.toArray⟩, .string ⟨p.val.toArray⟩] := by
    apply Array.ext'
    rw [e1]
    simp [Vote.flds, Guilt.flds, Cert.flds, Header.flds, Turn.flds, Proof.flds, Sight.flds, Tx.flds, Block.flds, Motion.flds, Known.flds, Message.flds, Record.flds, Fld.val, Lst.fld]
  subst ea1
  have k2 := h2
  have lt2 : ∀ x ∈ pp2, x.block < W.heap.size := by obtain ⟨m, hm⟩ := k2; exact DataW.trod_lt m _ _ _ hm
  obtain ⟨fu2, hf2⟩ := h2
  obtain ⟨cs2, rfl, hcs2⟩ := okWide_struct Try.underlying58 (hval 2 58 v2 rfl rfl)
  have g2 : DataW.trod enc Try.prog W 0 (fun _ => true) true fu2 58 cs2.toList = some (d2, pp2) := hf2
  obtain ⟨h, e2, gd2, b2⟩ := open_Header enc W (fun _ => true) _ _ _ g2
  have ea2 : cs2 = #[.int .i64 h.c, .int .i64 h.h, .int .u64 h.pa, .int .u64 h.tx, .int .u64 h.gu, .int .u64 h.st, .int .u64 h.re, .int .u64 h.be, .int .i64 h.pr] := by
    apply Array.ext'
    rw [e2]
    simp [Vote.flds, Guilt.flds, Cert.flds, Header.flds, Turn.flds, Proof.flds, Sight.flds, Tx.flds, Block.flds, Motion.flds, Known.flds, Message.flds, Record.flds, Fld.val, Lst.fld]
  subst ea2
  have k3 := h3
  have lt3 : ∀ x ∈ pp3, x.block < W.heap.size := by obtain ⟨m, hm⟩ := k3; exact DataW.trod_lt m _ _ _ hm
  obtain ⟨fu3, hf3⟩ := h3
  obtain ⟨cs3, rfl, hcs3⟩ := okWide_struct Try.underlying60 (hval 3 60 v3 rfl rfl)
  have g3 : DataW.trod enc Try.prog W 0 (fun _ => true) true fu3 60 cs3.toList = some (d3, pp3) := hf3
  obtain ⟨c, e3, gd3, b3⟩ := open_Cert enc W (fun _ => true) _ _ _ g3
  have ea3 : cs3 = #[.int .i64 c.h, .int .i64 c.r, .int .i64 c.s, .bool c.has, .int .u64 c.bl, .slice c.fr.la c.fr.xs.length c.fr.lc] := by
    apply Array.ext'
    rw [e3]
    simp [Vote.flds, Guilt.flds, Cert.flds, Header.flds, Turn.flds, Proof.flds, Sight.flds, Tx.flds, Block.flds, Motion.flds, Known.flds, Message.flds, Record.flds, Fld.val, Lst.fld]
  subst ea3
  clear hA0 hval0
  refine (walk t p h c W (by simp only at b0; omega) (by simp only at b1; omega) (by simp only at b2; omega) (by simp only at b3; omega) gd0 gd1 gd2 gd3).mono fun e W' ⟨he, bel⟩ => ?_
  subst he
  exact ⟨_, rfl, _, _, _, [], _, [], hW', trodAll_mk1 (shut_bool Try.underlying4 _), (trodAll_cons_mk (Below.trod laidOut (by kernel_rfl) (of_decide_eq_true (by kernel_rfl)) k0 bel lt0) (trodAll_cons_mk (Below.trod laidOut (by kernel_rfl) (of_decide_eq_true (by kernel_rfl)) k1 bel lt1) (trodAll_cons_mk (Below.trod laidOut (by kernel_rfl) (of_decide_eq_true (by kernel_rfl)) k2 bel lt2) (trodAll_cons_mk (Below.trod laidOut (by kernel_rfl) (of_decide_eq_true (by kernel_rfl)) k3 bel lt3) trodAll_mk0)))), rfl, bel.frame _, fun h => by cases h⟩

theorem over : Rows.wireTxsUptoRow.holds Try.pinned (Rows.OpenSpec.upto Rows.wireTxsSpec) :=
  OpenClaim.holds_of_cond 4 Try.f4 rfl rfl rfl rfl rfl rfl rfl ⟨rfl, rfl, rfl, rfl, rfl⟩ rfl rfl rfl rfl rfl (by kernel_rfl) Try.func4 (by kernel_rfl)
    (of_decide_eq_true (by kernel_rfl)) (by unfold Func.isWrapper; first | (rw [if_pos (by decide +kernel)]; kernel_rfl) | (rw [if_neg (by decide +kernel)]; exact ⟨rfl, rfl⟩))
    (fun os started H enc _ F => lifted os started H enc F)

end Go.Proofs.Ytgcebahlfgclgaa.wireTxs
namespace Go.Proofs.Ytgcebahlfgclgaa

/-- The statement. -/
theorem wireTxs_holds : Rows.WireTxsUptoSaid := wireTxs.over
end Go.Proofs.Ytgcebahlfgclgaa
