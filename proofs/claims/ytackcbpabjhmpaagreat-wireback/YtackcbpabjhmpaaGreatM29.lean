import Derived.Test.YtackcbpabjhmpaaGreatM26
import Derived.Test.YtackcbpabjhmpaaGreatXRef5
namespace Go.Proofs.YtackcbpabjhmpaaGreat
open Go.RowKit
set_option linter.unusedVariables false
set_option linter.unusedSimpArgs false
theorem each_mem {α : Type} (atoms : α → List Atom) (xs : List α) (y : α) (h : y ∈ xs) : wtL (atoms y) ≤ wtL (eachL atoms xs) := by
 obtain ⟨i, hi⟩ := List.getElem?_of_mem h
 have := eachL_wt atoms xs i y hi
 omega
theorem Tx.short_of (x : Tx) (h : wtL x.atoms ≤ 1099400000000) : ∀ y ∈ x.si.xs, y.se.xs.length ≤ 140737488351232 := by
 intro y hy
 have h1 := each_mem Sight.atoms x.si.xs y hy
 obtain ⟨_, _, p3⟩ := pairsZ_each y.se.xs
 simp only [Tx.atoms, wtL_append, listL, wtL] at h
 simp only [Sight.atoms, wtL_append, benchL, listL, wtL, p3] at h1
 omega
set_option maxHeartbeats 1600000 in
theorem rputTx_anyX (x : Tx) (w : World) (hL : wtL x.atoms ≤ 1099400000000) (g : goods w.heap.size w x.flds) :
  Calls Tryz.prog 34 #[(.agg #[.int .i64 x.k, .int .i64 x.f, .int .i64 x.n, .int .i64 x.p, .int .i64 x.li, .int .i64 x.to, .int .i64 x.am, .string ⟨x.te.toArray⟩, .slice x.ar.la x.ar.xs.length x.ar.lc, .slice x.si.la x.si.xs.length x.si.lc, .slice x.pr.la x.pr.xs.length x.pr.lc])] w fun e w' => e = .returned (.tuple #[.string ⟨(outB (encZL x.atoms) (!okL x.atoms) x.odd).toArray⟩, .int .i64 (outE (!okL x.atoms) x.odd)]) ∧ Below w.heap.size w w' := by
 have R0 : RefL ((w.alloc (.cells #[.int .i64 x.k, .int .i64 x.f, .int .i64 x.n, .int .i64 x.p, .int .i64 x.li, .int .i64 x.to, .int .i64 x.am, .string ⟨x.te.toArray⟩, .slice x.ar.la x.ar.xs.length x.ar.lc, .slice x.si.la x.si.xs.length x.si.lc, .slice x.pr.la x.pr.xs.length x.pr.lc] 64)).alloc (.cells #[.string ⟨#[]⟩, .bool false, .bool false] 86)) (w.heap.size + 1) [] false := by
  have h := Blk.new (w.alloc (.cells #[.int .i64 x.k, .int .i64 x.f, .int .i64 x.n, .int .i64 x.p, .int .i64 x.li, .int .i64 x.to, .int .i64 x.am, .string ⟨x.te.toArray⟩, .slice x.ar.la x.ar.xs.length x.ar.lc, .slice x.si.la x.si.xs.length x.si.lc, .slice x.pr.la x.pr.xs.length x.pr.lc] 64)) #[.string ⟨#[]⟩, .bool false, .bool false] 86
  rw [World.size_alloc] at h
  exact h
 have bA : Below w.heap.size w ((w.alloc (.cells #[.int .i64 x.k, .int .i64 x.f, .int .i64 x.n, .int .i64 x.p, .int .i64 x.li, .int .i64 x.to, .int .i64 x.am, .string ⟨x.te.toArray⟩, .slice x.ar.la x.ar.xs.length x.ar.lc, .slice x.si.la x.si.xs.length x.si.lc, .slice x.pr.la x.pr.xs.length x.pr.lc] 64)).alloc (.cells #[.string ⟨#[]⟩, .bool false, .bool false] 86)) := ((Below.refl _ _).alloc (Nat.le_refl _) _).alloc (by simp) _
 have g1 := g.below bA
 clear g
 go_enter Tryz.func34, Tryz.ntmps34
 go_wp2_with fail
 refine (rtx_anyX w.heap.size (w.heap.size + 1) x [] false _ (by omega) (by simp only [wtL]; omega) R0 g1).mono ?_
 rintro e w1 ⟨rfl, R1, k1⟩
 have R2 : RefAt w1 (w.heap.size + 1) (encZL x.atoms) (!okL x.atoms) x.odd := by
  have h := R1
  unfold RefL at h
  simpa using h
 have b1 := bA.trans k1.below
 clear R0 R1 g1
 go_wp2_with fail
 refine (rout_any (w.heap.size + 1) _ _ _ _ R2).mono ?_
 rintro e w2 ⟨rfl, b2⟩
 go_wp2
 go_ret2
 exact ⟨rfl, b1.trans (b2.mono b1.size)⟩
def Vote.may (x : Vote) : Bool := mayVoteP x.s x.has x.bl x.f
def Guilt.may (x : Guilt) : Bool := x.a.may && x.c.may
theorem Vote.enc (x : Vote) : encZL x.atoms = voteZ x.h x.r x.s x.has x.bl x.f := by
 simp only [Vote.atoms, encZL_append, nums, List.map, flagL, digL, intA, encZL, Atom.encZ, voteZ, List.append_assoc, List.append_nil]
theorem Vote.far (x : Vote) : (!okL x.atoms) = voteFar x.h x.r x.s x.f := by
 simp only [Vote.atoms, okL_append, nums, List.map, flagL, digL, intA, okL, Bool.not_and, Bool.and_true, voteFar, far_plain]
 simp only [Atom.ok, Bool.not_true, Bool.or_false, Bool.or_assoc]
theorem rvote_anyX (base b : Nat) (x : Vote) (l : List Atom) (odd : Bool) (w : World) (hb : base ≤ b) (hL : wtL l + wtL x.atoms ≤ 1099400000000) (R : RefL w b l odd) (g : goods base w x.flds) :
  Calls Tryz.prog 53 #[.pointer (some ⟨b, 0, none⟩), .agg #[.int .i64 x.h, .int .i64 x.r, .int .i64 x.s, .bool x.has, .int .u64 x.bl, .int .i64 x.f]] w fun e w' => e = .returned (.tuple #[]) ∧ RefL w' b (l ++ x.atoms) (odd || x.odd) ∧ Kp base b w w' := by
 have hl := encZL_len l
 refine (rvote_any base b x.h x.r x.s x.has x.bl x.f (encZL l) (!okL l) odd w hb (g.get 0 rfl) (g.get 1 rfl) (g.get 2 rfl) (g.get 4 rfl) (g.get 5 rfl) (by omega) R).mono ?_
 rintro e w' ⟨h1, h2, h3⟩
 refine ⟨h1, ?_, h3⟩
 unfold RefL
 rw [encZL_append, okL_append, Bool.not_and, x.enc, x.far]
 exact h2
theorem mayVote_anyX (x : Vote) (w : World) (g : goods w.heap.size w x.flds) : Calls Tryz.prog 50 #[.agg #[.int .i64 x.h, .int .i64 x.r, .int .i64 x.s, .bool x.has, .int .u64 x.bl, .int .i64 x.f]] w fun e w' => e = .returned (.bool x.may) ∧ Below w.heap.size w w' :=
 mayVote_any x.h x.r x.s x.has x.bl x.f w
theorem mayGuilt_anyX (x : Guilt) (w : World) (g : goods w.heap.size w x.flds) : Calls Tryz.prog 86 #[.agg #[.int .i64 x.a.h, .int .i64 x.a.r, .int .i64 x.a.s, .bool x.a.has, .int .u64 x.a.bl, .int .i64 x.a.f, .int .i64 x.c.h, .int .i64 x.c.r, .int .i64 x.c.s, .bool x.c.has, .int .u64 x.c.bl, .int .i64 x.c.f]] w fun e w' => e = .returned (.bool x.may) ∧ Below w.heap.size w w' :=
 mayGuilt_any x.a.h x.a.r x.a.s x.a.has x.a.bl x.a.f x.c.h x.c.r x.c.s x.c.has x.c.bl x.c.f w
set_option maxRecDepth 4000 in
set_option maxHeartbeats 6400000 in
theorem rblock_anyX (base b : Nat) (x : Block) (l : List Atom) (odd : Bool) (w : World) (hb : base ≤ b) (hL : wtL l + wtL x.atoms ≤ 1099400000000) (R : RefL w b l odd) (g : goods base w x.flds) :
  Calls Tryz.prog 178 #[.pointer (some ⟨b, 0, none⟩), .agg #[.int .i64 x.hd.c, .int .i64 x.hd.h, .int .u64 x.hd.pa, .int .u64 x.hd.tx, .int .u64 x.hd.gu, .int .u64 x.hd.st, .int .u64 x.hd.re, .int .u64 x.hd.be, .int .i64 x.hd.pr, .slice x.tx.la x.tx.xs.length x.tx.lc, .slice x.gu.la x.gu.xs.length x.gu.lc]] w fun e w' => e = .returned (.tuple #[]) ∧ RefL w' b (l ++ x.atoms) (odd || x.odd) ∧ Kp base b w w' := by
 have hlt := R.lt
 have hB0 : base ≤ w.heap.size := Nat.le_trans hb (Nat.le_of_lt hlt)
 have bA : Below w.heap.size w (w.alloc (.cells #[.int .i64 x.hd.c, .int .i64 x.hd.h, .int .u64 x.hd.pa, .int .u64 x.hd.tx, .int .u64 x.hd.gu, .int .u64 x.hd.st, .int .u64 x.hd.re, .int .u64 x.hd.be, .int .i64 x.hd.pr, .slice x.tx.la x.tx.xs.length x.tx.lc, .slice x.gu.la x.gu.xs.length x.gu.lc] 140)) := (Below.refl _ _).alloc (Nat.le_refl _) _
 have X0 := Blk.new w #[.int .i64 x.hd.c, .int .i64 x.hd.h, .int .u64 x.hd.pa, .int .u64 x.hd.tx, .int .u64 x.hd.gu, .int .u64 x.hd.st, .int .u64 x.hd.re, .int .u64 x.hd.be, .int .i64 x.hd.pr, .slice x.tx.la x.tx.xs.length x.tx.lc, .slice x.gu.la x.gu.xs.length x.gu.lc] 140
 have K0 : Kp base b w (w.alloc (.cells #[.int .i64 x.hd.c, .int .i64 x.hd.h, .int .u64 x.hd.pa, .int .u64 x.hd.tx, .int .u64 x.hd.gu, .int .u64 x.hd.st, .int .u64 x.hd.re, .int .u64 x.hd.be, .int .i64 x.hd.pr, .slice x.tx.la x.tx.xs.length x.tx.lc, .slice x.gu.la x.gu.xs.length x.gu.lc] 140)) := Kp.of_below bA hB0
 have R0 := R.below bA
 have hXb : w.heap.size ≠ b := by omega
 have HW : Hid (wtL l + (wtL x.hd.atoms + 6 + wtL (eachL Tx.atoms x.tx.xs) + 6 + wtL (eachL Guilt.atoms x.gu.xs)) ≤ 1099400000000) := by
  have h := hL
  simp only [Block.atoms, wtL_append, nums, digs, intA, flagL, digL, textL, listL, List.map, wtL, Atom.wt, flagB, be_len, List.length_cons, List.length_nil] at h
  show _ ≤ _
  omega
 clear hL
 go_enter Tryz.func178, Tryz.ntmps178
 have q0 := X0.cell 0
 have q1 := X0.cell 1
 have q2 := X0.cell 2
 have q3 := X0.cell 3
 have q4 := X0.cell 4
 have q5 := X0.cell 5
 have q6 := X0.cell 6
 have q7 := X0.cell 7
 have q8 := X0.cell 8
 simp only [List.getElem?_toArray, List.getElem?_cons_succ, List.getElem?_cons_zero] at q0 q1 q2 q3 q4 q5 q6 q7 q8
 go_wp2_with fail
 refine (rheader_anyX base b x.hd l odd _ hb (by have := HW.out; omega) R0 ((g.below K0.below).app.1)).mono ?_
 rintro e w1 ⟨rfl, R1, k⟩
 obtain ⟨m1, Hl1⟩ : ∃ l', Hid (l' = l ++ x.hd.atoms) := ⟨_, rfl⟩
 rw [← Hl1.out] at R1
 have HL1 : Hid (wtL m1 = wtL l + (wtL x.hd.atoms)) := by
  show _ = _
  rw [Hl1.out, wtL_append] <;> rfl
 have X1 := X0.kp k hXb
 have K1 := K0.trans k
 clear q0 q1 q2 q3 q4 q5 q6 q7 q8 k X0 R0
 have hh9 := Lst.held Tx.len (g.get 9 rfl)
 have hc9 := hh9.1
 have hm9 := hh9.2.1
 unfold maxLen at hm9
 have q9 := X1.cell 9
 simp only [List.getElem?_toArray, List.getElem?_cons_succ, List.getElem?_cons_zero] at q9
 go_wp2_with fail
 refine (rcountL base b (x.tx.xs.length : Int) 16 m1 odd _ hb (by omega) (by omega) (by have := HW.out; have := HL1.out; omega) R1).mono ?_
 rintro e w2 ⟨rfl, R2, k⟩
 obtain ⟨m2, Hl2⟩ : ∃ l', Hid (l' = m1 ++ [Atom.num 16 (x.tx.xs.length : Int)]) := ⟨_, rfl⟩
 rw [← Hl2.out] at R2
 have HL2 : Hid (wtL m2 = wtL m1 + (6)) := by
  show _ = _
  rw [Hl2.out, wtL_append] <;> rfl
 have X2 := X1.kp k hXb
 have K2 := K1.trans k
 clear q9 k X1 R1
 go_wp2_with fail
 go_loopw [4] (fun iv wv => ∃ (k : Nat), k ≤ x.tx.xs.length ∧ iv = .int .i64 k ∧ RefL wv b (m2 ++ eachL Tx.atoms (x.tx.xs.take k)) (odd || (x.tx.xs.take k).any Tx.odd) ∧ Kp base b w2 wv) (fun iv _ => x.tx.xs.length - (intOf iv).toNat)
 case atStart => exact ⟨0, Nat.zero_le _, rfl, by simpa [eachL, riseOdd, backsOdd] using R2, Kp.refl _ _ _⟩
 case round =>
  obtain ⟨k, hk, rfl, Rk, Kk⟩ := hrel
  have Xk := X2.kp Kk hXb
  have q9 := Xk.cell 9
  simp only [List.getElem?_toArray, List.getElem?_cons_succ, List.getElem?_cons_zero] at q9
  by_cases hk2 : k < x.tx.xs.length
  ·have hk3 : (k : Int) < (x.tx.xs.length : Int) := by omega
   have Hst : Hid (_ = _) := eachL_take Tx.atoms x.tx.xs k (x.tx.xs[k]'hk2) (List.getElem?_eq_getElem hk2)
   have Hso : Hid (_ = _) := any_take Tx.odd x.tx.xs k (x.tx.xs[k]'hk2) (List.getElem?_eq_getElem hk2)
   have HLk : Hid (wtL (m2 ++ eachL Tx.atoms (x.tx.xs.take k)) + wtL (Tx.atoms (x.tx.xs[k]'hk2)) ≤ 1099400000000) := by
    show _ ≤ _
    have h1 := eachL_wt Tx.atoms x.tx.xs k (x.tx.xs[k]'hk2) (List.getElem?_eq_getElem hk2)
    have h2 := HW.out
    have := HL1.out
    have := HL2.out
    rw [wtL_append]; omega
   obtain ⟨_, _, h0 | ⟨rb, ro, e0, rl, rz, rc⟩⟩ := (hh9.below K2.below).below Kk.below
   ·rw [h0] at hk2; simp at hk2
   have rk := rc k (x.tx.xs[k]'hk2) (List.getElem?_eq_getElem hk2)
   obtain ⟨y, Hy⟩ : ∃ y : Tx, Hid (y = x.tx.xs[k]'hk2) := ⟨x.tx.xs[k]'hk2, rfl⟩
   rw [← Hy.out] at rk Hst HLk Hso
   rw [e0] at q9
   have He0 := show Hid (_ = _) from e0
   clear e0
   have e1 := rk.get0 rfl
   have e2 := rk.get 1 rfl
   have e3 := rk.get 2 rfl
   have e4 := rk.get 3 rfl
   have e5 := rk.get 4 rfl
   have e6 := rk.get 5 rfl
   have e7 := rk.get 6 rfl
   have e8 := rk.get 7 rfl
   have e9 := rk.get 8 rfl
   have e10 := rk.get 9 rfl
   have e11 := rk.get 10 rfl
   simp only [Fld.val, Lst.fld, List.length_map] at e1 e2 e3 e4 e5 e6 e7 e8 e9 e10 e11
   go_wp2_with fail
   refine (rtx_anyX base b y _ _ _ hb (by have := HLk.out; omega) Rk rk.goods).mono ?_
   rintro e w2 ⟨rfl, R2, k2⟩
   rw [List.append_assoc, ← Hst.out, Bool.or_assoc, ← Hso.out] at R2
   clear HLk Hst rc rk Hso
   go_wp2
   exact ⟨⟨k + 1, by omega, by go_num, R2, Kk.trans k2⟩, by simp [intOf]; omega⟩
  ·have hkk : k = x.tx.xs.length := by omega
   rw [hkk, List.take_length] at Rk
   have hge : ¬ (k : Int) < (x.tx.xs.length : Int) := by omega
   clear hkk
   have K3 := K2.trans Kk
   have X3 := Xk
   have R3 := Rk
   clear Rk Xk X2 R2 Kk
   obtain ⟨o1, Ho1⟩ : ∃ o', Hid (o' = (odd || x.tx.xs.any Tx.odd)) := ⟨_, rfl⟩
   rw [← Ho1.out] at R3
   obtain ⟨m3, Hl3⟩ : ∃ l', Hid (l' = m2 ++ eachL Tx.atoms x.tx.xs) := ⟨_, rfl⟩
   rw [← Hl3.out] at R3
   have HL3 : Hid (wtL m3 = wtL m2 + (wtL (eachL Tx.atoms x.tx.xs))) := by
    show _ = _
    rw [Hl3.out, wtL_append] <;> rfl
   have hh10 := Lst.held Guilt.len (g.get 10 rfl)
   have hc10 := hh10.1
   have hm10 := hh10.2.1
   unfold maxLen at hm10
   have q10 := X3.cell 10
   simp only [List.getElem?_toArray, List.getElem?_cons_succ, List.getElem?_cons_zero] at q10
   go_wp2_with fail
   refine (rcountL base b (x.gu.xs.length : Int) 4 m3 o1 _ hb (by omega) (by omega) (by have := HW.out; have := HL1.out; have := HL2.out; have := HL3.out; omega) R3).mono ?_
   rintro e w4 ⟨rfl, R4, k⟩
   obtain ⟨m4, Hl4⟩ : ∃ l', Hid (l' = m3 ++ [Atom.num 4 (x.gu.xs.length : Int)]) := ⟨_, rfl⟩
   rw [← Hl4.out] at R4
   have HL4 : Hid (wtL m4 = wtL m3 + (6)) := by
    show _ = _
    rw [Hl4.out, wtL_append] <;> rfl
   have X4 := X3.kp k hXb
   have K4 := K3.trans k
   clear q10 k X3 R3
   go_wp2_with fail
   go_loopw [5] (fun iv wv => ∃ (k : Nat), k ≤ x.gu.xs.length ∧ iv = .int .i64 k ∧ RefL wv b (m4 ++ eachL Guilt.atoms (x.gu.xs.take k)) (o1 || (x.gu.xs.take k).any Guilt.odd) ∧ Kp base b w4 wv) (fun iv _ => x.gu.xs.length - (intOf iv).toNat)
   case atStart => exact ⟨0, Nat.zero_le _, rfl, by simpa [eachL, riseOdd, backsOdd] using R4, Kp.refl _ _ _⟩
   case round =>
    obtain ⟨k, hk, rfl, Rk, Kk⟩ := hrel
    have Xk := X4.kp Kk hXb
    have q10 := Xk.cell 10
    simp only [List.getElem?_toArray, List.getElem?_cons_succ, List.getElem?_cons_zero] at q10
    by_cases hk2 : k < x.gu.xs.length
    ·have hk3 : (k : Int) < (x.gu.xs.length : Int) := by omega
     have Hst : Hid (_ = _) := eachL_take Guilt.atoms x.gu.xs k (x.gu.xs[k]'hk2) (List.getElem?_eq_getElem hk2)
     have Hso : Hid (_ = _) := any_take Guilt.odd x.gu.xs k (x.gu.xs[k]'hk2) (List.getElem?_eq_getElem hk2)
     have HLk : Hid (wtL (m4 ++ eachL Guilt.atoms (x.gu.xs.take k)) + wtL (Guilt.atoms (x.gu.xs[k]'hk2)) ≤ 1099400000000) := by
      show _ ≤ _
      have h1 := eachL_wt Guilt.atoms x.gu.xs k (x.gu.xs[k]'hk2) (List.getElem?_eq_getElem hk2)
      have h2 := HW.out
      have := HL1.out
      have := HL2.out
      have := HL3.out
      have := HL4.out
      rw [wtL_append]; omega
     obtain ⟨_, _, h0 | ⟨rb, ro, e0, rl, rz, rc⟩⟩ := (hh10.below K4.below).below Kk.below
     ·rw [h0] at hk2; simp at hk2
     have rk := rc k (x.gu.xs[k]'hk2) (List.getElem?_eq_getElem hk2)
     obtain ⟨y, Hy⟩ : ∃ y : Guilt, Hid (y = x.gu.xs[k]'hk2) := ⟨x.gu.xs[k]'hk2, rfl⟩
     rw [← Hy.out] at rk Hst HLk Hso
     rw [e0] at q10
     have He0 := show Hid (_ = _) from e0
     clear e0
     have e1 := rk.get0 rfl
     have e2 := rk.get 1 rfl
     have e3 := rk.get 2 rfl
     have e4 := rk.get 3 rfl
     have e5 := rk.get 4 rfl
     have e6 := rk.get 5 rfl
     have e7 := rk.get 6 rfl
     have e8 := rk.get 7 rfl
     have e9 := rk.get 8 rfl
     have e10 := rk.get 9 rfl
     have e11 := rk.get 10 rfl
     have e12 := rk.get 11 rfl
     simp only [Fld.val] at e1 e2 e3 e4 e5 e6 e7 e8 e9 e10 e11 e12
     have gA := (CellsAt.goods rk).app.1
     have gC := (CellsAt.goods rk).app.2
     have hwt : wtL y.atoms = wtL y.a.atoms + wtL y.c.atoms := by simp only [Guilt.atoms, wtL_append]
     have Hwt := show Hid (_ = _) from hwt
     clear hwt
     go_wp2_with fail
     refine (rvote_anyX base b y.a _ _ _ hb (by have := HLk.out; have := Hwt.out; omega) Rk gA).mono ?_
     rintro e w2 ⟨rfl, R2, k2⟩
     have X2 := Xk.kp k2 hXb
     clear q10
     have q10 := X2.cell 10
     simp only [List.getElem?_toArray, List.getElem?_cons_succ, List.getElem?_cons_zero] at q10
     rw [He0.out] at q10
     have u6 := k2.below.cell (p := ⟨rb, ro + k * 12 + 6, none⟩) rl
     rw [e7] at u6
     have u7 := k2.below.cell (p := ⟨rb, ro + k * 12 + 7, none⟩) rl
     rw [e8] at u7
     have u8 := k2.below.cell (p := ⟨rb, ro + k * 12 + 8, none⟩) rl
     rw [e9] at u8
     have u9 := k2.below.cell (p := ⟨rb, ro + k * 12 + 9, none⟩) rl
     rw [e10] at u9
     have u10 := k2.below.cell (p := ⟨rb, ro + k * 12 + 10, none⟩) rl
     rw [e11] at u10
     have u11 := k2.below.cell (p := ⟨rb, ro + k * 12 + 11, none⟩) rl
     rw [e12] at u11
     clear e1 e2 e3 e4 e5 e6 e7 e8 e9 e10 e11 e12
     go_wp2_with fail
     refine (rvote_anyX base b y.c _ _ _ hb (by have := HLk.out; have := Hwt.out; rw [wtL_append]; omega) R2 (gC.below k2.below)).mono ?_
     rintro e w3 ⟨rfl, R3, k3⟩
     have EL : m4 ++ eachL Guilt.atoms (x.gu.xs.take k) ++ y.a.atoms ++ y.c.atoms = m4 ++ eachL Guilt.atoms (x.gu.xs.take (k + 1)) := by rw [Hst.out, Guilt.atoms]; simp only [List.append_assoc]
     have EO : (o1 || (x.gu.xs.take k).any Guilt.odd || y.a.odd || y.c.odd) = (o1 || (x.gu.xs.take (k + 1)).any Guilt.odd) := by rw [Hso.out, Guilt.odd]; simp only [Bool.or_assoc]
     have R4 := R3.as EL EO
     clear HLk Hst rc rk Hso EL EO R3 u6 u7 u8 u9 u10 u11
     go_wp2
     exact ⟨⟨k + 1, by omega, by go_num, R4, Kk.trans (k2.trans k3)⟩, by simp [intOf]; omega⟩
    ·have hkk : k = x.gu.xs.length := by omega
     rw [hkk, List.take_length] at Rk
     have hge : ¬ (k : Int) < (x.gu.xs.length : Int) := by omega
     clear hkk
     have K5 := K4.trans Kk
     have X5 := Xk
     have R5 := Rk
     clear Rk Xk X4 R4 Kk
     obtain ⟨o2, Ho2⟩ : ∃ o', Hid (o' = (o1 || x.gu.xs.any Guilt.odd)) := ⟨_, rfl⟩
     rw [← Ho2.out] at R5
     obtain ⟨m5, Hl5⟩ : ∃ l', Hid (l' = m4 ++ eachL Guilt.atoms x.gu.xs) := ⟨_, rfl⟩
     rw [← Hl5.out] at R5
     have HL5 : Hid (wtL m5 = wtL m4 + (wtL (eachL Guilt.atoms x.gu.xs))) := by
      show _ = _
      rw [Hl5.out, wtL_append] <;> rfl
     go_wp2
     go_end0
     have el : m5 = l ++ x.atoms := by
      rw [Hl5.out, Hl4.out, Hl3.out, Hl2.out, Hl1.out]
      simp only [Block.atoms, nums, digs, intA, flagL, digL, textL, listL, List.map, List.append_assoc, List.cons_append, List.nil_append]
     have eo : o2 = (odd || x.odd) := by
      rw [Ho2.out, Ho1.out]
      simp only [Block.odd, Bool.or_assoc]
     exact ⟨rfl, R5.as el eo, K5⟩
set_option maxHeartbeats 1600000 in
theorem allTx_anyX (base : Nat) (l : Lst Tx) (hn : ∀ y ∈ l.xs, wtL y.atoms ≤ 1099400000000) (w : World) (hb0 : base ≤ w.heap.size) (hh : l.Held Tx.flds 11 base w) :
  Calls Tryz.prog 229 #[.slice l.la l.xs.length l.lc, .func (.func 80) #[] #[]] w fun e w' => e = .returned (.bool (l.xs.all Tx.may)) ∧ Below w.heap.size w w' := by
 obtain ⟨la, lc, xs⟩ := l
 obtain ⟨hc, hcm, _⟩ := id hh
 simp only at hc hcm hn ⊢
 unfold maxLen at hcm
 go_enter Tryz.func229, Tryz.ntmps229
 go_wp2
 go_loopw [6, 9] (fun _ iv wv => ∃ (k : Nat), k ≤ xs.length ∧ iv = .int .i64 k ∧ Hid (xs.all Tx.may = (xs.drop k).all Tx.may) ∧ Below w.heap.size w wv) (fun _ iv _ => xs.length - (intOf iv).toNat)
 case atStart => exact ⟨0, Nat.zero_le _, rfl, rfl, Below.refl _ _⟩
 case round =>
  obtain ⟨k, hk, rfl, HR, hb⟩ := hrel
  by_cases hlt : k < xs.length
  ·have hlt' : (k : Int) < (xs.length : Int) := by omega
   obtain ⟨_, _, h0 | ⟨rb, ro, e0, rl, rz, rc⟩⟩ := hh.below (hb.mono hb0)
   ·simp only at h0; subst h0; simp at hlt
   simp only at e0 rc
   subst e0
   have rk := rc k (xs[k]'hlt) (List.getElem?_eq_getElem hlt)
   have HS : Hid ((xs.drop k).all Tx.may = (Tx.may (xs[k]'hlt) && (xs.drop (k + 1)).all Tx.may)) := by
    show _ = _
    rw [List.drop_eq_getElem_cons hlt]; rfl
   obtain ⟨y, Hy⟩ : ∃ y : Tx, Hid (y = xs[k]'hlt) := ⟨xs[k]'hlt, rfl⟩
   rw [← Hy.out] at rk HS
   have e1 := rk.get0 rfl
   have e2 := rk.get 1 rfl
   have e3 := rk.get 2 rfl
   have e4 := rk.get 3 rfl
   have e5 := rk.get 4 rfl
   have e6 := rk.get 5 rfl
   have e7 := rk.get 6 rfl
   have e8 := rk.get 7 rfl
   have e9 := rk.get 8 rfl
   have e10 := rk.get 9 rfl
   have e11 := rk.get 10 rfl
   simp only [Fld.val, Lst.fld, List.length_map] at e1 e2 e3 e4 e5 e6 e7 e8 e9 e10 e11
   have hb1 := (hb.alloc hb.size (.cells #[.int .i64 y.k, .int .i64 y.f, .int .i64 y.n, .int .i64 y.p, .int .i64 y.li, .int .i64 y.to, .int .i64 y.am, .string ⟨y.te.toArray⟩, .slice y.ar.la y.ar.xs.length y.ar.lc, .slice y.si.la y.si.xs.length y.si.lc, .slice y.pr.la y.pr.xs.length y.pr.lc] 64))
   have gd := (rk.goods.below (hb1' hb hb0 (.cells #[.int .i64 y.k, .int .i64 y.f, .int .i64 y.n, .int .i64 y.p, .int .i64 y.li, .int .i64 y.to, .int .i64 y.am, .string ⟨y.te.toArray⟩, .slice y.ar.la y.ar.xs.length y.ar.lc, .slice y.si.la y.si.xs.length y.si.lc, .slice y.pr.la y.pr.xs.length y.pr.lc] 64))).mono (Nat.le_trans hb0 hb1.size)
   clear rc rk
   go_wp2_with fail
   refine (mayTx_anyX y _ gd (y.short_of (hn y (by rw [Hy.out]; exact List.getElem_mem hlt)))).mono ?_
   rintro e w1 ⟨rfl, b1⟩
   have hb2 := hb1.trans (b1.mono hb1.size)
   cases hm : Tx.may y
   ·have Hf : Hid (xs.all Tx.may = false) := by
     show _ = _
     rw [HR.out, HS.out, hm]; rfl
    clear HR HS hm
    go_wp2
    go_ret
    exact ⟨by rw [Hf.out]; rfl, hb2⟩
   ·have Hf : Hid (xs.all Tx.may = (xs.drop (k + 1)).all Tx.may) := by
     show _ = _
     rw [HR.out, HS.out, hm]; rfl
    clear HR HS hm
    go_wp2
    exact ⟨⟨k + 1, by omega, by go_num, Hf, hb2⟩, by simp [intOf]; omega⟩
  ·have Hf : Hid (xs.all Tx.may = true) := by
    show _ = _
    rw [HR.out, List.drop_of_length_le (by omega)]; rfl
   have hge : ¬ (k : Int) < (xs.length : Int) := by omega
   clear HR
   go_wp2
   go_ret
   exact ⟨by rw [Hf.out]; rfl, hb⟩
set_option maxHeartbeats 1600000 in
theorem allGuilt_anyX (base : Nat) (l : Lst Guilt) (w : World) (hb0 : base ≤ w.heap.size) (hh : l.Held Guilt.flds 12 base w) :
  Calls Tryz.prog 230 #[.slice l.la l.xs.length l.lc, .func (.func 86) #[] #[]] w fun e w' => e = .returned (.bool (l.xs.all Guilt.may)) ∧ Below w.heap.size w w' := by
 obtain ⟨la, lc, xs⟩ := l
 obtain ⟨hc, hcm, _⟩ := id hh
 simp only at hc hcm ⊢
 unfold maxLen at hcm
 go_enter Tryz.func230, Tryz.ntmps230
 go_wp2
 go_loopw [6, 9] (fun _ iv wv => ∃ (k : Nat), k ≤ xs.length ∧ iv = .int .i64 k ∧ Hid (xs.all Guilt.may = (xs.drop k).all Guilt.may) ∧ Below w.heap.size w wv) (fun _ iv _ => xs.length - (intOf iv).toNat)
 case atStart => exact ⟨0, Nat.zero_le _, rfl, rfl, Below.refl _ _⟩
 case round =>
  obtain ⟨k, hk, rfl, HR, hb⟩ := hrel
  by_cases hlt : k < xs.length
  ·have hlt' : (k : Int) < (xs.length : Int) := by omega
   obtain ⟨_, _, h0 | ⟨rb, ro, e0, rl, rz, rc⟩⟩ := hh.below (hb.mono hb0)
   ·simp only at h0; subst h0; simp at hlt
   simp only at e0 rc
   subst e0
   have rk := rc k (xs[k]'hlt) (List.getElem?_eq_getElem hlt)
   have HS : Hid ((xs.drop k).all Guilt.may = (Guilt.may (xs[k]'hlt) && (xs.drop (k + 1)).all Guilt.may)) := by
    show _ = _
    rw [List.drop_eq_getElem_cons hlt]; rfl
   obtain ⟨y, Hy⟩ : ∃ y : Guilt, Hid (y = xs[k]'hlt) := ⟨xs[k]'hlt, rfl⟩
   rw [← Hy.out] at rk HS
   have e1 := rk.get0 rfl
   have e2 := rk.get 1 rfl
   have e3 := rk.get 2 rfl
   have e4 := rk.get 3 rfl
   have e5 := rk.get 4 rfl
   have e6 := rk.get 5 rfl
   have e7 := rk.get 6 rfl
   have e8 := rk.get 7 rfl
   have e9 := rk.get 8 rfl
   have e10 := rk.get 9 rfl
   have e11 := rk.get 10 rfl
   have e12 := rk.get 11 rfl
   simp only [Fld.val, Lst.fld, List.length_map] at e1 e2 e3 e4 e5 e6 e7 e8 e9 e10 e11 e12
   have hb1 := (hb.alloc hb.size (.cells #[.int .i64 y.a.h, .int .i64 y.a.r, .int .i64 y.a.s, .bool y.a.has, .int .u64 y.a.bl, .int .i64 y.a.f, .int .i64 y.c.h, .int .i64 y.c.r, .int .i64 y.c.s, .bool y.c.has, .int .u64 y.c.bl, .int .i64 y.c.f] 69))
   have gd := (rk.goods.below (hb1' hb hb0 (.cells #[.int .i64 y.a.h, .int .i64 y.a.r, .int .i64 y.a.s, .bool y.a.has, .int .u64 y.a.bl, .int .i64 y.a.f, .int .i64 y.c.h, .int .i64 y.c.r, .int .i64 y.c.s, .bool y.c.has, .int .u64 y.c.bl, .int .i64 y.c.f] 69))).mono (Nat.le_trans hb0 hb1.size)
   clear rc rk
   go_wp2_with fail
   refine (mayGuilt_anyX y _ gd).mono ?_
   rintro e w1 ⟨rfl, b1⟩
   have hb2 := hb1.trans (b1.mono hb1.size)
   cases hm : Guilt.may y
   ·have Hf : Hid (xs.all Guilt.may = false) := by
     show _ = _
     rw [HR.out, HS.out, hm]; rfl
    clear HR HS hm
    go_wp2
    go_ret
    exact ⟨by rw [Hf.out]; rfl, hb2⟩
   ·have Hf : Hid (xs.all Guilt.may = (xs.drop (k + 1)).all Guilt.may) := by
     show _ = _
     rw [HR.out, HS.out, hm]; rfl
    clear HR HS hm
    go_wp2
    exact ⟨⟨k + 1, by omega, by go_num, Hf, hb2⟩, by simp [intOf]; omega⟩
  ·have Hf : Hid (xs.all Guilt.may = true) := by
    show _ = _
    rw [HR.out, List.drop_of_length_le (by omega)]; rfl
   have hge : ¬ (k : Int) < (xs.length : Int) := by omega
   clear HR
   go_wp2
   go_ret
   exact ⟨by rw [Hf.out]; rfl, hb⟩
def Block.may (x : Block) : Bool := x.tx.xs.all Tx.may && x.gu.xs.all Guilt.may
set_option maxHeartbeats 1600000 in
theorem mayBlock_anyX (x : Block) (w : World) (g : goods w.heap.size w x.flds) (hn : ∀ y ∈ x.tx.xs, wtL y.atoms ≤ 1099400000000) : Calls Tryz.prog 175 #[.agg #[.int .i64 x.hd.c, .int .i64 x.hd.h, .int .u64 x.hd.pa, .int .u64 x.hd.tx, .int .u64 x.hd.gu, .int .u64 x.hd.st, .int .u64 x.hd.re, .int .u64 x.hd.be, .int .i64 x.hd.pr, .slice x.tx.la x.tx.xs.length x.tx.lc, .slice x.gu.la x.gu.xs.length x.gu.lc]] w fun e w' => e = .returned (.bool x.may) ∧ Below w.heap.size w w' := by
 have bA : Below w.heap.size w (w.alloc (.cells #[.int .i64 x.hd.c, .int .i64 x.hd.h, .int .u64 x.hd.pa, .int .u64 x.hd.tx, .int .u64 x.hd.gu, .int .u64 x.hd.st, .int .u64 x.hd.re, .int .u64 x.hd.be, .int .i64 x.hd.pr, .slice x.tx.la x.tx.xs.length x.tx.lc, .slice x.gu.la x.gu.xs.length x.gu.lc] 140)) := (Below.refl _ _).alloc (Nat.le_refl _) _
 have kX := Blk.new w #[.int .i64 x.hd.c, .int .i64 x.hd.h, .int .u64 x.hd.pa, .int .u64 x.hd.tx, .int .u64 x.hd.gu, .int .u64 x.hd.st, .int .u64 x.hd.re, .int .u64 x.hd.be, .int .i64 x.hd.pr, .slice x.tx.la x.tx.xs.length x.tx.lc, .slice x.gu.la x.gu.xs.length x.gu.lc] 140
 have h9 := Lst.held (flds := Tx.flds) (l := x.tx) Tx.len (g.get 9 rfl)
 have h10 := Lst.held (flds := Guilt.flds) (l := x.gu) Guilt.len (g.get 10 rfl)
 have key1 : ∀ wv, Below w.heap.size w wv → Calls Tryz.prog 229 #[.slice x.tx.la x.tx.xs.length x.tx.lc, .func (.func 80) #[] #[]] wv fun e w' => e = .returned (.bool (x.tx.xs.all Tx.may)) ∧ Below wv.heap.size wv w' := fun wv hv =>
  allTx_anyX w.heap.size x.tx hn wv hv.size (h9.below hv)
 have key2 : ∀ wv, Below w.heap.size w wv → Calls Tryz.prog 230 #[.slice x.gu.la x.gu.xs.length x.gu.lc, .func (.func 86) #[] #[]] wv fun e w' => e = .returned (.bool (x.gu.xs.all Guilt.may)) ∧ Below wv.heap.size wv w' := fun wv hv =>
  allGuilt_anyX w.heap.size x.gu wv hv.size (h10.below hv)
 clear g h9 h10 hn
 go_enter Tryz.func175, Tryz.ntmps175
 go_wp2_with fail
 refine (key1 _ bA).mono ?_
 rintro e w1 ⟨rfl, b1⟩
 have b2 := bA.trans (b1.mono bA.size)
 have k1 := kX.below b1 kX.lt
 have q10 := k1.cell 10
 simp only [List.getElem?_toArray, List.getElem?_cons_succ, List.getElem?_cons_zero] at q10
 cases hm : x.tx.xs.all Tx.may
 ·have Hm := show Hid (_ = _) from hm
  clear hm
  go_wp2
  go_ret
  exact ⟨by unfold Block.may; rw [Hm.out]; rfl, b2⟩
 ·have Hm := show Hid (_ = _) from hm
  clear hm
  go_wp2_with fail
  refine (key2 _ b2).mono ?_
  rintro e w3 ⟨rfl, b3⟩
  go_wp2
  go_ret
  exact ⟨by unfold Block.may; rw [Hm.out]; simp, b2.trans (b3.mono b2.size)⟩
theorem Vote.odd_may (x : Vote) (h : okL x.atoms = true) : x.odd = !x.may := by
 refine vote_odd x.h x.r x.s x.has x.bl x.f ?_
 have e := x.far
 rw [h] at e
 exact e.symm
theorem Guilt.odd_may (x : Guilt) (h : okL x.atoms = true) : x.odd = !x.may := by
 simp only [Guilt.atoms, okL_append, Bool.and_eq_true] at h
 unfold Guilt.odd Guilt.may
 rw [x.a.odd_may h.1, x.c.odd_may h.2]
 simp
theorem Block.odd_may (x : Block) (h : okL x.atoms = true) : x.odd = !x.may := by
 simp only [Block.atoms, okL_append, Bool.and_eq_true] at h
 have ht := okL_list h.1.2
 have hg := okL_list h.2
 unfold Block.odd Block.may
 rw [any_all fun y hy => Tx.odd_may y (ht.2 y hy), any_all fun y hy => Guilt.odd_may y (hg.2 y hy)]
 simp
theorem Block.short_of (x : Block) (h : wtL x.atoms ≤ 1099400000000) : ∀ y ∈ x.tx.xs, wtL y.atoms ≤ 1099400000000 := by
 intro y hy
 have h1 := each_mem Tx.atoms x.tx.xs y hy
 simp only [Block.atoms, wtL_append, listL, wtL] at h
 omega
set_option maxHeartbeats 1600000 in
theorem rputBlock_anyX (x : Block) (w : World) (hL : wtL x.atoms ≤ 1099400000000) (g : goods w.heap.size w x.flds) :
  Calls Tryz.prog 92 #[(.agg #[.int .i64 x.hd.c, .int .i64 x.hd.h, .int .u64 x.hd.pa, .int .u64 x.hd.tx, .int .u64 x.hd.gu, .int .u64 x.hd.st, .int .u64 x.hd.re, .int .u64 x.hd.be, .int .i64 x.hd.pr, .slice x.tx.la x.tx.xs.length x.tx.lc, .slice x.gu.la x.gu.xs.length x.gu.lc])] w fun e w' => e = .returned (.tuple #[.string ⟨(outB (encZL x.atoms) (!okL x.atoms) x.odd).toArray⟩, .int .i64 (outE (!okL x.atoms) x.odd)]) ∧ Below w.heap.size w w' := by
 have R0 : RefL ((w.alloc (.cells #[.int .i64 x.hd.c, .int .i64 x.hd.h, .int .u64 x.hd.pa, .int .u64 x.hd.tx, .int .u64 x.hd.gu, .int .u64 x.hd.st, .int .u64 x.hd.re, .int .u64 x.hd.be, .int .i64 x.hd.pr, .slice x.tx.la x.tx.xs.length x.tx.lc, .slice x.gu.la x.gu.xs.length x.gu.lc] 140)).alloc (.cells #[.string ⟨#[]⟩, .bool false, .bool false] 86)) (w.heap.size + 1) [] false := by
  have h := Blk.new (w.alloc (.cells #[.int .i64 x.hd.c, .int .i64 x.hd.h, .int .u64 x.hd.pa, .int .u64 x.hd.tx, .int .u64 x.hd.gu, .int .u64 x.hd.st, .int .u64 x.hd.re, .int .u64 x.hd.be, .int .i64 x.hd.pr, .slice x.tx.la x.tx.xs.length x.tx.lc, .slice x.gu.la x.gu.xs.length x.gu.lc] 140)) #[.string ⟨#[]⟩, .bool false, .bool false] 86
  rw [World.size_alloc] at h
  exact h
 have bA : Below w.heap.size w ((w.alloc (.cells #[.int .i64 x.hd.c, .int .i64 x.hd.h, .int .u64 x.hd.pa, .int .u64 x.hd.tx, .int .u64 x.hd.gu, .int .u64 x.hd.st, .int .u64 x.hd.re, .int .u64 x.hd.be, .int .i64 x.hd.pr, .slice x.tx.la x.tx.xs.length x.tx.lc, .slice x.gu.la x.gu.xs.length x.gu.lc] 140)).alloc (.cells #[.string ⟨#[]⟩, .bool false, .bool false] 86)) := ((Below.refl _ _).alloc (Nat.le_refl _) _).alloc (by simp) _
 have g1 := g.below bA
 clear g
 go_enter Tryz.func92, Tryz.ntmps92
 go_wp2_with fail
 refine (rblock_anyX w.heap.size (w.heap.size + 1) x [] false _ (by omega) (by simp only [wtL]; omega) R0 g1).mono ?_
 rintro e w1 ⟨rfl, R1, k1⟩
 have R2 : RefAt w1 (w.heap.size + 1) (encZL x.atoms) (!okL x.atoms) x.odd := by
  have h := R1
  unfold RefL at h
  simpa using h
 have b1 := bA.trans k1.below
 clear R0 R1 g1
 go_wp2_with fail
 refine (rout_any (w.heap.size + 1) _ _ _ _ R2).mono ?_
 rintro e w2 ⟨rfl, b2⟩
 go_wp2
 go_ret2
 exact ⟨rfl, b1.trans (b2.mono b1.size)⟩
end Go.Proofs.YtackcbpabjhmpaaGreat
