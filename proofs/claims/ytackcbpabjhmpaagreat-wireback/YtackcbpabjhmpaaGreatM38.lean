import Derived.Test.YtackcbpabjhmpaaGreatM37
namespace Go.Proofs.YtackcbpabjhmpaaGreat
open Go.RowKit
set_option linter.unusedVariables false
set_option linter.unusedSimpArgs false
theorem lt_of {w w5 : World} {la : Option Addr} {ps : List (Int × Int)} (h : PairsAt w la ps) (hb : Below w.heap.size w w5) : PairsLt w.heap.size w5 la ps := by
 refine ⟨h.1, ?_⟩
 rcases h.2 with h | ⟨rb, ro, e, hl, hc⟩
 ·exact .inl h
 ·refine .inr ⟨rb, ro, e, hl, fun i p hp => ?_⟩
  have := hc i p hp
  exact ⟨by rw [hb.cell (p := ⟨rb, ro + i * 2, none⟩) hl]; exact this.1, by rw [hb.cell (p := ⟨rb, ro + i * 2 + 1, none⟩) hl]; exact this.2⟩
set_option maxHeartbeats 800000 in
theorem rputBench_any (la : Option Addr) (lc : Nat) (ps : List (Int × Int)) (w : World) (hn : ps.length ≤ 65536) (hc : ps.length ≤ lc) (hcm : lc ≤ maxLen) (hps : PairsAt w la ps) :
  Calls Tryz.prog 22 #[(.slice la ps.length lc)] w fun e w' => e = .returned (.tuple #[.string ⟨(outB (benchZ ps) (benchFar ps) (benchOdd ps)).toArray⟩, .int .i64 (outE (benchFar ps) (benchOdd ps))]) ∧ Below w.heap.size w w' := by
 have R0 : RefAt (w.alloc (.cells #[.string ⟨#[]⟩, .bool false, .bool false] 86)) (w.heap.size) [] false false := by
  have h := Blk.new w #[.string ⟨#[]⟩, .bool false, .bool false] 86
  skip
  exact h
 have bA : Below w.heap.size w (w.alloc (.cells #[.string ⟨#[]⟩, .bool false, .bool false] 86)) := (Below.refl _ _).alloc (Nat.le_refl _) _
 have P0 := lt_of hps bA
 go_enter Tryz.func22, Tryz.ntmps22
 go_wp2_with fail
 refine (rbench_any w.heap.size w.heap.size la lc ps [] false false _ (Nat.le_refl _) (by simp; omega) R0 P0).mono ?_
 rintro e w1 ⟨rfl, R1, k1⟩
 simp only [List.nil_append, Bool.false_or] at R1
 have b1 := bA.trans k1.below
 go_wp2_with fail
 refine (rout_any (w.heap.size) _ _ _ _ R1).mono ?_
 rintro e w2 ⟨rfl, b2⟩
 go_wp2
 go_ret2
 exact ⟨rfl, b1.trans (b2.mono b1.size)⟩
set_option maxHeartbeats 800000 in
theorem rputView_any (c : Int) (wi : Int) (ep : Int) (h : Int) (st : Int) (la : Option Addr) (lc : Nat) (ps : List (Int × Int)) (w : World) (bc : -9223372036854775808 ≤ c ∧ c ≤ 9223372036854775807) (bwi : -9223372036854775808 ≤ wi ∧ wi ≤ 9223372036854775807) (bep : -9223372036854775808 ≤ ep ∧ ep ≤ 9223372036854775807) (bh : -9223372036854775808 ≤ h ∧ h ≤ 9223372036854775807) (bst : 0 ≤ st ∧ st ≤ 18446744073709551615) (hn : ps.length ≤ 65536) (hc : ps.length ≤ lc) (hcm : lc ≤ maxLen) (hps : PairsAt w la ps) :
  Calls Tryz.prog 112 #[(.agg #[.int .i64 c, .int .i64 wi, .int .i64 ep, .int .i64 h, .int .u64 st, .slice la ps.length lc])] w fun e w' => e = .returned (.tuple #[.string ⟨(outB (viewZ c wi ep h st ps) (viewFar c wi ep h ps) (viewOdd wi ep ps)).toArray⟩, .int .i64 (outE (viewFar c wi ep h ps) (viewOdd wi ep ps))]) ∧ Below w.heap.size w w' := by
 have R0 : RefAt ((w.alloc (.cells #[.int .i64 c, .int .i64 wi, .int .i64 ep, .int .i64 h, .int .u64 st, .slice la ps.length lc] 173)).alloc (.cells #[.string ⟨#[]⟩, .bool false, .bool false] 86)) (w.heap.size + 1) [] false false := by
  have h := Blk.new (w.alloc (.cells #[.int .i64 c, .int .i64 wi, .int .i64 ep, .int .i64 h, .int .u64 st, .slice la ps.length lc] 173)) #[.string ⟨#[]⟩, .bool false, .bool false] 86
  rw [World.size_alloc] at h
  exact h
 have bA : Below w.heap.size w ((w.alloc (.cells #[.int .i64 c, .int .i64 wi, .int .i64 ep, .int .i64 h, .int .u64 st, .slice la ps.length lc] 173)).alloc (.cells #[.string ⟨#[]⟩, .bool false, .bool false] 86)) := ((Below.refl _ _).alloc (Nat.le_refl _) _).alloc (by simp) _
 have P0 := lt_of hps bA
 go_enter Tryz.func112, Tryz.ntmps112
 go_wp2_with fail
 refine (rview_any w.heap.size (w.heap.size + 1) c wi ep h st la lc ps [] false false _ (by omega) bc bwi bep bh bst hn (by simp) R0 P0).mono ?_
 rintro e w1 ⟨rfl, R1, k1⟩
 simp only [List.nil_append, Bool.false_or] at R1
 have b1 := bA.trans k1.below
 go_wp2_with fail
 refine (rout_any (w.heap.size + 1) _ _ _ _ R1).mono ?_
 rintro e w2 ⟨rfl, b2⟩
 go_wp2
 go_ret2
 exact ⟨rfl, b1.trans (b2.mono b1.size)⟩
set_option maxHeartbeats 800000 in
theorem rputResult_any (co : Int) (us : Int) (va : Int) (la : Option Addr) (lc : Nat) (ps : List (Int × Int)) (w : World) (bco : -9223372036854775808 ≤ co ∧ co ≤ 9223372036854775807) (bus : -9223372036854775808 ≤ us ∧ us ≤ 9223372036854775807) (bva : -9223372036854775808 ≤ va ∧ va ≤ 9223372036854775807) (hn : ps.length ≤ 65536) (hc : ps.length ≤ lc) (hcm : lc ≤ maxLen) (hps : PairsAt w la ps) :
  Calls Tryz.prog 116 #[(.agg #[.int .i64 co, .int .i64 us, .int .i64 va, .slice la ps.length lc])] w fun e w' => e = .returned (.tuple #[.string ⟨(outB (resultZ co us va ps) (resultFar co us va ps) false).toArray⟩, .int .i64 (outE (resultFar co us va ps) false)]) ∧ Below w.heap.size w w' := by
 have R0 : RefAt ((w.alloc (.cells #[.int .i64 co, .int .i64 us, .int .i64 va, .slice la ps.length lc] 179)).alloc (.cells #[.string ⟨#[]⟩, .bool false, .bool false] 86)) (w.heap.size + 1) [] false false := by
  have h := Blk.new (w.alloc (.cells #[.int .i64 co, .int .i64 us, .int .i64 va, .slice la ps.length lc] 179)) #[.string ⟨#[]⟩, .bool false, .bool false] 86
  rw [World.size_alloc] at h
  exact h
 have bA : Below w.heap.size w ((w.alloc (.cells #[.int .i64 co, .int .i64 us, .int .i64 va, .slice la ps.length lc] 179)).alloc (.cells #[.string ⟨#[]⟩, .bool false, .bool false] 86)) := ((Below.refl _ _).alloc (Nat.le_refl _) _).alloc (by simp) _
 have P0 := lt_of hps bA
 go_enter Tryz.func116, Tryz.ntmps116
 go_wp2_with fail
 refine (rresult_any w.heap.size (w.heap.size + 1) co us va la lc ps [] false false _ (by omega) bco bus bva hn (by simp) R0 P0).mono ?_
 rintro e w1 ⟨rfl, R1, k1⟩
 simp only [List.nil_append, Bool.false_or] at R1
 have b1 := bA.trans k1.below
 go_wp2_with fail
 refine (rout_any (w.heap.size + 1) _ _ _ _ R1).mono ?_
 rintro e w2 ⟨rfl, b2⟩
 go_wp2
 go_ret2
 exact ⟨rfl, b1.trans (b2.mono b1.size)⟩
theorem put_w {X : Type} {f : FuncId} {wr : Array Value → Value} {sc : List Sc} {flds : X → List Fld} {m odd far : X → Bool} {Z : X → List UInt8} (of : ∀ e, fitsAll sc e → ∃ x, flds x = e) (mpv : ∀ x y, pvAll (flds x) = pvAll (flds y) → m x = m y) (hE : enters Tryz.prog f = true) (hZ : ∀ x, fitsAll sc (flds x) → far x = false ∧ Z x = encL (atomsAll sc (pvAll (flds x))) ∧ odd x = !m x)
  (hput : ∀ lo x w, fitsAll sc (flds x) → lieAll lo w (flds x) → Calls Tryz.prog f #[wr ((flds x).map Fld.val).toArray] w fun e w' => e = .returned (.tuple #[.string ⟨(outB (Z x) (far x) (odd x)).toArray⟩, .int .i64 (outE (far x) (odd x))]) ∧ Below w.heap.size w w') : PutC f { thingK sc flds m with wrap := wr } := by
 refine ⟨hE, fun lo fs w hfit hl => ?_⟩
 obtain ⟨x, rfl⟩ := of fs hfit
 refine (hput lo x w hfit hl).mono ?_
 rintro e w' ⟨rfl, hb⟩
 refine ⟨_, _, rfl, hb, ?_⟩
 obtain ⟨h1, h2, h3⟩ := hZ x hfit
 rw [h1, h2, h3]
 have hmk := mayK (sc := sc) mpv x
 cases hm : m x with
 | true => exact .inl ⟨hmk.2 hm, by simp [outB, thingK], by simp [outE]⟩
 | false => exact .inr ⟨fun q => (by rw [hmk.1 q] at hm; cases hm), by simp [outB], by simp [outE]⟩
theorem numZ_in {n : Int} (h : 0 ≤ n ∧ n ≤ 1099511627775) : inNum n = true ∧ numZ n = numB n := by
 have : inNum n = true := by simp [inNum, h.1, h.2]
 exact ⟨this, by simp [numZ, this]⟩
theorem i64 {n : Int} (h : 0 ≤ n ∧ n ≤ 1099511627775) : -9223372036854775808 ≤ n ∧ n ≤ 9223372036854775807 := by omega
abbrev numberK : Kd := { thingK [numC] intF (fun _ => true) with wrap := hdv }
theorem number_z (x : Int) (h : fitsAll [numC] (intF x)) : (!inNum x) = false ∧ numZ x = encL (atomsAll [numC] (pvAll (intF x))) ∧ false = !true := by
 have b : 0 ≤ x ∧ x ≤ 1099511627775 := by simpa [intF, fitsAll, Sc.fits] using h
 obtain ⟨h1, h2⟩ := numZ_in b
 simp [h1, h2, intF, pvAll, Fld.pv, atomsAll, Sc.atoms, encL, Atom.enc]
theorem num_b {x : Int} (h : fitsAll [numC] (intF x)) : 0 ≤ x ∧ x ≤ 1099511627775 := by simpa [intF, fitsAll, Sc.fits] using h
theorem rputNumber_c : PutC 10 numberK := put_w int_of (fun _ _ _ => rfl) (by kernel_rfl) number_z fun lo x w h _ => rputNumber_any x w (i64 (num_b h))
abbrev voteK := thingK Vote.sc Vote.flds Vote.may
theorem Vote.bnd {x : Vote} (h : fitsAll Vote.sc x.flds) : (0 ≤ x.h ∧ x.h ≤ 1099511627775) ∧ (0 ≤ x.r ∧ x.r ≤ 1099511627775) ∧ (0 ≤ x.s ∧ x.s ≤ 1099511627775) ∧ (0 ≤ x.bl ∧ x.bl ≤ 18446744073709551615) ∧ (0 ≤ x.f ∧ x.f ≤ 1099511627775) := by
 simp only [Vote.sc, Vote.flds, List.replicate, List.cons_append, List.nil_append, fitsAll, Sc.fits, true_and, and_true] at h
 exact h
theorem Vote.z {x : Vote} (h : fitsAll Vote.sc x.flds) : voteFar x.h x.r x.s x.f = false ∧ voteZ x.h x.r x.s x.has x.bl x.f = encL (atomsAll Vote.sc (pvAll x.flds)) ∧ voteOdd x.s x.has x.bl x.f = !x.may := by
 obtain ⟨b1, b2, b3, b4, b5⟩ := Vote.bnd h
 have hf : voteFar x.h x.r x.s x.f = false := by simp [voteFar, (numZ_in b1).1, (numZ_in b2).1, (numZ_in b3).1, (numZ_in b5).1]
 refine ⟨hf, ?_, vote_odd x.h x.r x.s x.has x.bl x.f hf⟩
 rw [← Vote.pv]
 simp [voteZ, (numZ_in b1).2, (numZ_in b2).2, (numZ_in b3).2, (numZ_in b5).2, Vote.atoms, nums, flagL, digL, intA, encL, Atom.enc]
theorem rputVote_c : PutC 14 voteK := put_w Vote.of Vote.mpv (by kernel_rfl) (fun x h => Vote.z h) fun lo x w h _ => by
 obtain ⟨b1, b2, b3, b4, b5⟩ := Vote.bnd h
 rw [← Vote.vals]
 exact rputVote_any x.h x.r x.s x.has x.bl x.f w (i64 b1) (i64 b2) (i64 b3) b4 (i64 b5)
abbrev guiltK := thingK Guilt.sc Guilt.flds Guilt.may
theorem Guilt.parts {x : Guilt} (h : fitsAll Guilt.sc x.flds) : fitsAll Vote.sc x.a.flds ∧ fitsAll Vote.sc x.c.flds := by
 obtain ⟨f, g, e, h1, h2⟩ := fitsAll_split (a := Vote.sc) (b := Vote.sc) h
 have hl := fits_len h1
 obtain ⟨e1, e2⟩ := List.append_inj (show x.a.flds ++ x.c.flds = f ++ g from e) (by rw [hl]; rfl)
 rw [e1, e2]
 exact ⟨h1, h2⟩
theorem Guilt.z {x : Guilt} (h : fitsAll Guilt.sc x.flds) : (voteFar x.a.h x.a.r x.a.s x.a.f || voteFar x.c.h x.c.r x.c.s x.c.f) = false ∧ voteZ x.a.h x.a.r x.a.s x.a.has x.a.bl x.a.f ++ voteZ x.c.h x.c.r x.c.s x.c.has x.c.bl x.c.f = encL (atomsAll Guilt.sc (pvAll x.flds)) ∧ (voteOdd x.a.s x.a.has x.a.bl x.a.f || voteOdd x.c.s x.c.has x.c.bl x.c.f) = !x.may := by
 obtain ⟨h1, h2⟩ := Guilt.parts h
 obtain ⟨a1, a2, a3⟩ := Vote.z h1
 obtain ⟨c1, c2, c3⟩ := Vote.z h2
 refine ⟨by rw [a1, c1]; rfl, ?_, by rw [a3, c3, Guilt.may]; cases x.a.may <;> cases x.c.may <;> rfl⟩
 rw [a2, c2, ← encL_append]
 exact congrArg encL (sub_pv (a := Vote.sc) (b := Vote.sc) (f := x.a.flds) (g := x.c.flds) rfl).symm
theorem rputGuilt_c : PutC 38 guiltK := put_w Guilt.of Guilt.mpv (by kernel_rfl) (fun x h => Guilt.z h) fun lo x w h _ => by
 obtain ⟨b1, b2, b3, b4, b5⟩ := Vote.bnd (Guilt.parts h).1
 obtain ⟨c1, c2, c3, c4, c5⟩ := Vote.bnd (Guilt.parts h).2
 rw [← Guilt.vals]
 exact rputGuilt_any x.a.h x.a.r x.a.s x.a.has x.a.bl x.a.f x.c.h x.c.r x.c.s x.c.has x.c.bl x.c.f w (i64 b1) (i64 b2) (i64 b3) b4 (i64 b5) (i64 c1) (i64 c2) (i64 c3) c4 (i64 c5)
abbrev accountK := thingK accSc Acc.flds Acc.any
theorem Acc.bnd {x : Acc} (h : fitsAll accSc x.flds) : (0 ≤ x.ba ∧ x.ba ≤ 1099511627775) ∧ (0 ≤ x.fo ∧ x.fo ≤ 1099511627775) ∧ (0 ≤ x.no ∧ x.no ≤ 1099511627775) ∧ (0 ≤ x.bo ∧ x.bo ≤ 1099511627775) ∧ (0 ≤ x.le ∧ x.le ≤ 1099511627775) ∧ (0 ≤ x.fr ∧ x.fr ≤ 1099511627775) := by
 simp only [accSc, Acc.flds, List.replicate, List.cons_append, List.nil_append, fitsAll, Sc.fits, true_and, and_true] at h
 exact h
theorem Acc.z {x : Acc} (h : fitsAll accSc x.flds) : accountFar x.ba x.fo x.no x.bo x.le x.fr = false ∧ accountZ x.ba x.fo x.no x.bo x.le x.fr x.ja = encL (atomsAll accSc (pvAll x.flds)) ∧ false = !x.any := by
 obtain ⟨b1, b2, b3, b4, b5, b6⟩ := Acc.bnd h
 refine ⟨by simp [accountFar, (numZ_in b1).1, (numZ_in b2).1, (numZ_in b3).1, (numZ_in b4).1, (numZ_in b5).1, (numZ_in b6).1], ?_, rfl⟩
 simp [accountZ, (numZ_in b1).2, (numZ_in b2).2, (numZ_in b3).2, (numZ_in b4).2, (numZ_in b5).2, (numZ_in b6).2, accSc, Acc.flds, List.replicate, pvAll, Fld.pv, atomsAll, Sc.atoms, flagL, encL, Atom.enc]
theorem rputAccount_c : PutC 104 accountK := put_w (odd := fun _ => false) Acc.of (fun _ _ _ => rfl) (by kernel_rfl) (fun x h => Acc.z h) fun lo x w h _ => by
 obtain ⟨b1, b2, b3, b4, b5, b6⟩ := Acc.bnd h
 rw [← Acc.vals]
 exact rputAccount_any x.ba x.fo x.no x.bo x.le x.fr x.ja w (i64 b1) (i64 b2) (i64 b3) (i64 b4) (i64 b5) (i64 b6)
abbrev parcelK := thingK parSc Par.flds Par.may
theorem Par.mpv (x y : Par) (h : pvAll x.flds = pvAll y.flds) : x.may = y.may := by
 simp [Par.flds, pvAll, Fld.pv] at h
 simp [Par.may, h.1, h.2.1]
theorem Par.bnd {x : Par} (h : fitsAll parSc x.flds) : (0 ≤ x.k ∧ x.k ≤ 1099511627775) ∧ (0 ≤ x.t ∧ x.t ≤ 1099511627775) ∧ (0 ≤ x.a ∧ x.a ≤ 1099511627775) := by
 simp only [parSc, Par.flds, List.replicate, fitsAll, Sc.fits, and_true] at h
 exact h
theorem Par.z {x : Par} (h : fitsAll parSc x.flds) : parcelFar x.k x.t x.a = false ∧ parcelZ x.k x.t x.a = encL (atomsAll parSc (pvAll x.flds)) ∧ parcelOdd x.k x.t = !x.may := by
 obtain ⟨b1, b2, b3⟩ := Par.bnd h
 refine ⟨by simp [parcelFar, (numZ_in b1).1, (numZ_in b2).1, (numZ_in b3).1], ?_, ?_⟩
 ·simp [parcelZ, (numZ_in b1).2, (numZ_in b2).2, (numZ_in b3).2, parSc, Par.flds, List.replicate, pvAll, Fld.pv, atomsAll, Sc.atoms, encL, Atom.enc]
 ·rw [Par.may, Bool.eq_iff_iff]
  simp only [parcelOdd, mayParcelP, Bool.or_eq_true, Bool.not_eq_true', Bool.and_eq_false_iff, Bool.or_eq_false_iff, decide_eq_true_eq, decide_eq_false_iff_not]
  omega
theorem rputParcel_c : PutC 108 parcelK := put_w Par.of Par.mpv (by kernel_rfl) (fun x h => Par.z h) fun lo x w h _ => by
 obtain ⟨b1, b2, b3⟩ := Par.bnd h
 rw [← Par.vals]
 exact rputParcel_any x.k x.t x.a w (i64 b1) (i64 b2) (i64 b3)
theorem lies_pairs {lo : Nat} {w : World} {l : Lst (Int × Int)} (h : (l.fld pairF).lies lo w) : l.xs.length ≤ l.lc ∧ l.lc ≤ maxLen ∧ PairsAt w l.la l.xs := by
 have hp := pairs_held (Lst.held pairF_len (Fld.lies_good _ h))
 obtain ⟨h1, h2, _⟩ := h
 exact ⟨by simpa using h1, h2, hp⟩
theorem pairs_z {m : Int} {la : Option Addr} {lc : Nat} {ps : List (Int × Int)} (hm : m ≤ 1099511627775) (h : Sc.fits (.list m pairSc) (.l la lc (ps.map pairF))) : (decide (m < ps.length) || !inNum ps.length || pairsFar ps) = false ∧ numZ ps.length ++ pairsZ ps = encL (Sc.atoms (.list m pairSc) (.l (pvRows (ps.map pairF)))) := by
 rw [Sc.fits] at h
 obtain ⟨h1, h2⟩ := h
 rw [List.length_map] at h1
 have hb : ∀ p ∈ ps, (0 ≤ p.1 ∧ p.1 ≤ 1099511627775) ∧ (0 ≤ p.2 ∧ p.2 ≤ 1099511627775) := fun p hp => by
  have := h2 (pairF p) (List.mem_map.2 ⟨p, hp, rfl⟩)
  simpa [pairF, fitsAll, Sc.fits] using this
 have hl : (0 : Int) ≤ ps.length ∧ (ps.length : Int) ≤ 1099511627775 := by omega
 obtain ⟨n1, n2⟩ := numZ_in hl
 have key : ∀ qs : List (Int × Int), (∀ p ∈ qs, (0 ≤ p.1 ∧ p.1 ≤ 1099511627775) ∧ (0 ≤ p.2 ∧ p.2 ≤ 1099511627775)) → pairsFar qs = false ∧ pairsZ qs = encL (eachL (fun e => atomsAll pairSc e) (pvRows (qs.map pairF))) := by
  intro qs
  induction qs with
  | nil => intro _; exact ⟨rfl, rfl⟩
  | cons q qs ih =>
   intro hq
   obtain ⟨i1, i2⟩ := ih fun p hp => hq p (by simp [hp])
   obtain ⟨b1, b2⟩ := hq q (by simp)
   refine ⟨?_, ?_⟩
   ·show ((!inNum q.1 || !inNum q.2) || pairsFar qs) = false
    rw [(numZ_in b1).1, (numZ_in b2).1, i1]; rfl
   ·show (numZ q.1 ++ numZ q.2) ++ pairsZ qs = encL (atomsAll pairSc (pvAll (pairF q)) ++ eachL (fun e => atomsAll pairSc e) (pvRows (qs.map pairF)))
    rw [encL_append, i2, (numZ_in b1).2, (numZ_in b2).2, ← pair_pv]
    simp [pairA, encL, Atom.enc]
 obtain ⟨k1, k2⟩ := key ps hb
 refine ⟨by rw [k1, n1]; simp; omega, ?_⟩
 rw [n2, k2, Sc.atoms]
 simp [encL, Atom.enc, pvRows_len]
def benchFl (x : Lst (Int × Int)) : List Fld := [x.fld pairF]
abbrev benchK : Kd := { thingK [.list 7 pairSc] benchFl (fun x => mayBenchP x.xs) with wrap := hdv }
theorem bench_ofK (e : List Fld) (h : fitsAll [.list 7 pairSc] e) : ∃ x, benchFl x = e := by
 obtain ⟨f, gs, rfl, h1, h2⟩ := fits_cons h
 obtain ⟨la, lc, es, rfl, m⟩ := fits_list h1
 obtain ⟨xs, rfl⟩ := lst_of pair_of es m
 rw [fits_nil h2]
 exact ⟨⟨la, lc, xs⟩, rfl⟩
theorem bench_mpv (x y : Lst (Int × Int)) (h : pvAll (benchFl x) = pvAll (benchFl y)) : mayBenchP x.xs = mayBenchP y.xs := by
 simp only [benchFl, pvAll, Fld.pv, Lst.fld, List.cons.injEq, Pv.l.injEq, and_true] at h
 rw [rows_inj pair_inj _ _ h]
theorem bench_z (x : Lst (Int × Int)) (h : fitsAll [.list 7 pairSc] (benchFl x)) : benchFar x.xs = false ∧ benchZ x.xs = encL (atomsAll [.list 7 pairSc] (pvAll (benchFl x))) ∧ benchOdd x.xs = !mayBenchP x.xs := by
 have hf : Sc.fits (.list 7 pairSc) (x.fld pairF) := get_fits h 0 rfl rfl
 obtain ⟨h1, h2⟩ := pairs_z (by omega) hf
 refine ⟨h1, ?_, bench_odd _ h1⟩
 show numZ x.xs.length ++ pairsZ x.xs = encL (Sc.atoms (.list 7 pairSc) (x.fld pairF).pv ++ [])
 rw [List.append_nil]
 exact h2
theorem len_of {m : Int} {x : Lst (Int × Int)} (h : Sc.fits (.list m pairSc) (x.fld pairF)) (hm : m ≤ 64) : x.xs.length ≤ 65536 := by
 have h1 : Sc.fits (.list m pairSc) (.l x.la x.lc (x.xs.map pairF)) := h
 rw [Sc.fits, List.length_map] at h1
 omega
theorem rputBench_c : PutC 22 benchK := put_w bench_ofK bench_mpv (by kernel_rfl) bench_z fun lo x w h hl => by
 obtain ⟨l1, l2, l3⟩ := lies_pairs (hl (x.fld pairF) (by simp [benchFl]))
 have := rputBench_any x.la x.lc x.xs w (len_of (get_fits h 0 rfl rfl) (by omega)) l1 l2 l3
 simpa [benchFl, hdv, Lst.fld, Fld.val] using this
abbrev viewK := thingK viewSc Vw.flds Vw.may
theorem Vw.mpv (x y : Vw) (h : pvAll x.flds = pvAll y.flds) : x.may = y.may := by
 simp only [Vw.flds, pvAll, Fld.pv, Lst.fld, List.cons.injEq, Pv.i.injEq, Pv.d.injEq, Pv.l.injEq, and_true] at h
 obtain ⟨h1, h2, h3, h4, h5, h6⟩ := h
 simp only [Vw.may, h2, h3, rows_inj pair_inj _ _ h6]
theorem Vw.bnd {x : Vw} (h : fitsAll viewSc x.flds) : (0 ≤ x.c ∧ x.c ≤ 1099511627775) ∧ (0 ≤ x.wi ∧ x.wi ≤ 1099511627775) ∧ (0 ≤ x.ep ∧ x.ep ≤ 1099511627775) ∧ (0 ≤ x.h ∧ x.h ≤ 1099511627775) ∧ (0 ≤ x.st ∧ x.st ≤ 18446744073709551615) ∧ Sc.fits (.list 7 pairSc) (x.se.fld pairF) := by
 refine ⟨?_, ?_, ?_, ?_, ?_, get_fits h 5 rfl rfl⟩
 ·have q : Sc.fits numC (.i x.c) := get_fits h 0 rfl rfl
  rwa [Sc.fits] at q
 ·have q : Sc.fits numC (.i x.wi) := get_fits h 1 rfl rfl
  rwa [Sc.fits] at q
 ·have q : Sc.fits numC (.i x.ep) := get_fits h 2 rfl rfl
  rwa [Sc.fits] at q
 ·have q : Sc.fits numC (.i x.h) := get_fits h 3 rfl rfl
  rwa [Sc.fits] at q
 ·have q : Sc.fits .dig (.d x.st) := get_fits h 4 rfl rfl
  rwa [Sc.fits] at q
theorem Vw.z {x : Vw} (h : fitsAll viewSc x.flds) : viewFar x.c x.wi x.ep x.h x.se.xs = false ∧ viewZ x.c x.wi x.ep x.h x.st x.se.xs = encL (atomsAll viewSc (pvAll x.flds)) ∧ viewOdd x.wi x.ep x.se.xs = !x.may := by
 obtain ⟨b1, b2, b3, b4, b5, b6⟩ := Vw.bnd h
 obtain ⟨h1, h2⟩ := pairs_z (by omega) b6
 have h1' : benchFar x.se.xs = false := h1
 refine ⟨by simp [viewFar, (numZ_in b1).1, (numZ_in b2).1, (numZ_in b3).1, (numZ_in b4).1, h1'], ?_, ?_⟩
 ·have e : atomsAll viewSc (pvAll x.flds) = [Atom.num 1099511627775 x.c, Atom.num 1099511627775 x.wi, Atom.num 1099511627775 x.ep, Atom.num 1099511627775 x.h, Atom.raw (be x.st 8)] ++ Sc.atoms (.list 7 pairSc) (.l (pvRows (x.se.xs.map pairF))) := by
   simp [viewSc, Vw.flds, List.replicate, pvAll, Fld.pv, atomsAll, Lst.fld, Sc.atoms, digL]
  rw [e, encL_append, ← h2]
  simp [viewZ, benchZ, (numZ_in b1).2, (numZ_in b2).2, (numZ_in b3).2, (numZ_in b4).2, encL, Atom.enc]
 ·unfold viewOdd Vw.may mayViewP
  rw [bench_odd _ h1']
  cases mayBenchP x.se.xs <;> by_cases h1 : x.wi < 1 <;> by_cases h2 : 8 < x.wi <;> by_cases h3 : x.ep < 1 <;> simp_all <;> omega
theorem rputView_c : PutC 112 viewK := put_w Vw.of Vw.mpv (by kernel_rfl) (fun x h => Vw.z h) fun lo x w h hl => by
 obtain ⟨b1, b2, b3, b4, b5, b6⟩ := Vw.bnd h
 obtain ⟨l1, l2, l3⟩ := lies_pairs (hl (x.se.fld pairF) (by simp [Vw.flds]))
 rw [← Vw.vals]
 exact rputView_any x.c x.wi x.ep x.h x.st x.se.la x.se.lc x.se.xs w (i64 b1) (i64 b2) (i64 b3) (i64 b4) b5 (len_of b6 (by omega)) l1 l2 l3
structure Rsl where
 (co us va : Int)
 no : Lst (Int × Int)
def Rsl.flds (x : Rsl) : List Fld := [.i x.co, .i x.us, .i x.va, x.no.fld pairF]
def Rsl.any (_ : Rsl) : Bool := true
theorem Rsl.of (e : List Fld) (h : fitsAll resSc e) : ∃ x : Rsl, x.flds = e := by
 obtain ⟨f, gs, rfl, h1, h2⟩ := fits_cons h
 obtain ⟨a, rfl⟩ := fits_num h1
 obtain ⟨f, gs, rfl, h3, h4⟩ := fits_cons h2
 obtain ⟨b, rfl⟩ := fits_num h3
 obtain ⟨f, gs, rfl, h5, h6⟩ := fits_cons h4
 obtain ⟨c, rfl⟩ := fits_num h5
 obtain ⟨f, gs, rfl, h7, h8⟩ := fits_cons h6
 obtain ⟨la, lc, es, rfl, m⟩ := fits_list h7
 obtain ⟨xs, rfl⟩ := lst_of pair_of es m
 rw [fits_nil h8]
 exact ⟨⟨a, b, c, ⟨la, lc, xs⟩⟩, rfl⟩
theorem Rsl.vals (x : Rsl) : (#[.int .i64 x.co, .int .i64 x.us, .int .i64 x.va, .slice x.no.la x.no.xs.length x.no.lc] : Array Value) = ((Rsl.flds x).map Fld.val).toArray := by
 simp [Rsl.flds, Lst.fld, Fld.val]
abbrev resultK := thingK resSc Rsl.flds Rsl.any
theorem Rsl.bnd {x : Rsl} (h : fitsAll resSc x.flds) : (0 ≤ x.co ∧ x.co ≤ 1099511627775) ∧ (0 ≤ x.us ∧ x.us ≤ 1099511627775) ∧ (0 ≤ x.va ∧ x.va ≤ 1099511627775) ∧ Sc.fits (.list 64 pairSc) (x.no.fld pairF) := by
 refine ⟨?_, ?_, ?_, get_fits h 3 rfl rfl⟩
 ·have q : Sc.fits numC (.i x.co) := get_fits h 0 rfl rfl
  rwa [Sc.fits] at q
 ·have q : Sc.fits numC (.i x.us) := get_fits h 1 rfl rfl
  rwa [Sc.fits] at q
 ·have q : Sc.fits numC (.i x.va) := get_fits h 2 rfl rfl
  rwa [Sc.fits] at q
theorem Rsl.z {x : Rsl} (h : fitsAll resSc x.flds) : resultFar x.co x.us x.va x.no.xs = false ∧ resultZ x.co x.us x.va x.no.xs = encL (atomsAll resSc (pvAll x.flds)) ∧ false = !x.any := by
 obtain ⟨b1, b2, b3, b6⟩ := Rsl.bnd h
 obtain ⟨h1, h2⟩ := pairs_z (by omega) b6
 refine ⟨by unfold resultFar; rw [(numZ_in b1).1, (numZ_in b2).1, (numZ_in b3).1, h1]; rfl, ?_, rfl⟩
 have e : atomsAll resSc (pvAll x.flds) = [Atom.num 1099511627775 x.co, Atom.num 1099511627775 x.us, Atom.num 1099511627775 x.va] ++ Sc.atoms (.list 64 pairSc) (.l (pvRows (x.no.xs.map pairF))) := by
  simp [resSc, Rsl.flds, pvAll, Fld.pv, atomsAll, Lst.fld, Sc.atoms]
 rw [e, encL_append, ← h2]
 simp [resultZ, (numZ_in b1).2, (numZ_in b2).2, (numZ_in b3).2, encL, Atom.enc]
theorem rputResult_c : PutC 116 resultK := put_w (odd := fun _ => false) Rsl.of (fun _ _ _ => rfl) (by kernel_rfl) (fun x h => Rsl.z h) fun lo x w h hl => by
 obtain ⟨b1, b2, b3, b6⟩ := Rsl.bnd h
 obtain ⟨l1, l2, l3⟩ := lies_pairs (hl (x.no.fld pairF) (by simp [Rsl.flds]))
 rw [← Rsl.vals]
 exact rputResult_any x.co x.us x.va x.no.la x.no.lc x.no.xs w (i64 b1) (i64 b2) (i64 b3) (len_of b6 (by omega)) l1 l2 l3
def recFs (k : Int) (fs : List Fld) : List Fld :=
 if k = 1 then [.i k] ++ (fs ++ (zFs Motion.sc ++ zFs Known.sc)) else if k = 2 then [.i k] ++ (zFs Vote.sc ++ (fs ++ zFs Known.sc)) else if k = 3 then [.i k] ++ (zFs Vote.sc ++ (zFs Motion.sc ++ fs)) else if k = 4 then [.i k] ++ (zFs Vote.sc ++ (zFs Motion.sc ++ fs)) else [.i k] ++ (zFs Vote.sc ++ (zFs Motion.sc ++ zFs Known.sc))
def recPv (k : Int) (vs : List Pv) : List Pv :=
 if k = 1 then [.i k] ++ (vs ++ (pvAll (zFs Motion.sc) ++ pvAll (zFs Known.sc))) else if k = 2 then [.i k] ++ (pvAll (zFs Vote.sc) ++ (vs ++ pvAll (zFs Known.sc))) else if k = 3 then [.i k] ++ (pvAll (zFs Vote.sc) ++ (pvAll (zFs Motion.sc) ++ vs)) else if k = 4 then [.i k] ++ (pvAll (zFs Vote.sc) ++ (pvAll (zFs Motion.sc) ++ vs)) else [.i k] ++ (pvAll (zFs Vote.sc) ++ (pvAll (zFs Motion.sc) ++ pvAll (zFs Known.sc)))
theorem recFs_pv (k : Int) (fs : List Fld) : pvAll (recFs k fs) = recPv k (pvAll fs) := by
 have h1 : pvAll [.i k] = [.i k] := by simp [pvAll, Fld.pv]
 unfold recFs recPv
 split
 ·rw [pvAll_app, pvAll_app, pvAll_app, h1]
 split
 ·rw [pvAll_app, pvAll_app, pvAll_app, h1]
 split
 ·rw [pvAll_app, pvAll_app, pvAll_app, h1]
 split
 ·rw [pvAll_app, pvAll_app, pvAll_app, h1]
 ·rw [pvAll_app, pvAll_app, pvAll_app, h1]
theorem putAt_mid (p q r vs : List Value) (h : q.length = vs.length) : putAt (p ++ (q ++ r)).toArray p.length vs = (p ++ (vs ++ r)).toArray := by
 apply Array.ext_getElem?
 intro i
 by_cases h1 : i < p.length
 ·rw [putAt_off _ _ _ _ (.inl h1)]
  simp [List.getElem?_append_left h1]
 ·by_cases h2 : i < p.length + vs.length
  ·obtain ⟨j, rfl⟩ : ∃ j, i = p.length + j := ⟨i - p.length, by omega⟩
   rw [putAt_in _ _ _ _ (by simp; omega) (by omega)]
   simp only [List.getElem?_toArray]
   rw [List.getElem?_append_right (by omega), Nat.add_sub_cancel_left, List.getElem?_append_left (by omega)]
  ·rw [putAt_off _ _ _ _ (.inr (by omega))]
   simp only [List.getElem?_toArray]
   rw [List.getElem?_append_right (by omega), List.getElem?_append_right (by omega), List.getElem?_append_right (by omega), List.getElem?_append_right (by omega), h]
theorem rec_vals {k : Int} {fs : List Fld} (h : fs.length = (recSc k).length) : putAt (putAt (zArr recZ) 0 [.int .i64 k]) (recOff k) (fs.map Fld.val) = ((recFs k fs).map Fld.val).toArray := by
 have hz : zArr recZ = ([Value.int .i64 0] ++ ((zFs Vote.sc).map Fld.val ++ ((zFs Motion.sc).map Fld.val ++ (zFs Known.sc).map Fld.val))).toArray := by kernel_rfl
 have h0 : putAt (zArr recZ) 0 [.int .i64 k] = ([Value.int .i64 k] ++ ((zFs Vote.sc).map Fld.val ++ ((zFs Motion.sc).map Fld.val ++ (zFs Known.sc).map Fld.val))).toArray := by
  rw [hz]
  exact putAt_mid [] [.int .i64 0] _ [.int .i64 k] rfl
 rw [h0]
 have l1 : ((zFs Vote.sc).map Fld.val).length = 6 := by rw [List.length_map, zFs_len]; rfl
 have l2 : ((zFs Motion.sc).map Fld.val).length = 14 := by rw [List.length_map, zFs_len]; rfl
 have l3 : ((zFs Known.sc).map Fld.val).length = 17 := by rw [List.length_map, zFs_len]; rfl
 by_cases e1 : k = 1
 ·subst e1
  have := putAt_mid [.int .i64 1] ((zFs Vote.sc).map Fld.val) ((zFs Motion.sc).map Fld.val ++ (zFs Known.sc).map Fld.val) (fs.map Fld.val) (by rw [l1, List.length_map, h]; rfl)
  simpa [recFs, recOff, Fld.val] using this
 by_cases e2 : k = 2
 ·subst e2
  have := putAt_mid ([.int .i64 2] ++ (zFs Vote.sc).map Fld.val) ((zFs Motion.sc).map Fld.val) ((zFs Known.sc).map Fld.val) (fs.map Fld.val) (by rw [l2, List.length_map, h]; rfl)
  rw [List.length_append, l1] at this
  simpa [recFs, recOff, Fld.val] using this
 by_cases e3 : k = 3
 ·subst e3
  have := putAt_mid ([.int .i64 3] ++ ((zFs Vote.sc).map Fld.val ++ (zFs Motion.sc).map Fld.val)) ((zFs Known.sc).map Fld.val) [] (fs.map Fld.val) (by rw [l3, List.length_map, h]; rfl)
  rw [List.length_append, List.length_append, l1, l2] at this
  simpa [recFs, recOff, Fld.val] using this
 by_cases e4 : k = 4
 ·subst e4
  have := putAt_mid ([.int .i64 4] ++ ((zFs Vote.sc).map Fld.val ++ (zFs Motion.sc).map Fld.val)) ((zFs Known.sc).map Fld.val) [] (fs.map Fld.val) (by rw [l3, List.length_map, h]; rfl)
  rw [List.length_append, List.length_append, l1, l2] at this
  simpa [recFs, recOff, Fld.val] using this
 ·have hf : fs = [] := List.eq_nil_of_length_eq_zero (by rw [h]; simp [recSc, e1, e2, e3, e4])
  subst hf
  simp [recFs, e1, e2, e3, e4, putAt, Fld.val]
theorem recFs_fit {k : Int} {fs : List Fld} (hk : fitsAll [numC] [.i k]) (h : fitsAll (recSc k) fs) : fitsAll recZ (recFs k fs) := by
 have z1 := zFs_fit Vote.sc (by kernel_rfl)
 have z2 := zFs_fit Motion.sc (by kernel_rfl)
 have z3 := zFs_fit Known.sc (by kernel_rfl)
 unfold recFs
 split
 ·rename_i e; subst e
  exact fitsAll_app hk (fitsAll_app h (fitsAll_app z2 z3))
 split
 ·rename_i e; subst e
  exact fitsAll_app hk (fitsAll_app z1 (fitsAll_app h z3))
 split
 ·rename_i e; subst e
  exact fitsAll_app hk (fitsAll_app z1 (fitsAll_app z2 h))
 split
 ·rename_i e; subst e
  exact fitsAll_app hk (fitsAll_app z1 (fitsAll_app z2 h))
 ·exact fitsAll_app hk (fitsAll_app z1 (fitsAll_app z2 z3))
theorem recFs_lie {lo : Nat} {w : World} {k : Int} {fs : List Fld} (hk : fitsAll [numC] [.i k]) (h : lieAll lo w fs) : lieAll lo w (recFs k fs) := by
 have l0 : lieAll lo w [.i k] := lie_i (by omega) hk lo w
 have z := zFs_lie lo w
 unfold recFs
 split
 ·exact l0.app (h.app ((z _).app (z _)))
 split
 ·exact l0.app ((z _).app (h.app (z _)))
 split
 ·exact l0.app ((z _).app ((z _).app h))
 split
 ·exact l0.app ((z _).app ((z _).app h))
 ·exact l0.app ((z _).app ((z _).app (z _)))
def rdRec (s : List UInt8) : Rs (List Pv) := match readRec s with | .error e => .error e | .ok ((k, vs), r) => .ok (recPv k vs, r)
def recKind (vs : List Pv) : Int := match vs with | .i k :: _ => k | _ => 0
def recAt (vs : List Pv) : List Atom := intA (recKind vs) ++ atomsAll (recSc (recKind vs)) ((vs.drop (recOff (recKind vs))).take (recSc (recKind vs)).length)
def recordK : Kd := { sc := recZ, wrap := .agg, rd := rdRec, may := fun vs => ∃ x : Record, pvAll x.flds = vs ∧ x.may = true, enc := fun vs => encL (recAt vs) }
theorem Record.of (e : List Fld) (h : fitsAll recZ e) : ∃ x : Record, x.flds = e := by
 obtain ⟨p0, q0, rfl, a0, b0⟩ := fitsAll_split (a := [numC]) (b := Vote.sc ++ (Motion.sc ++ Known.sc)) h
 obtain ⟨k, rfl⟩ := int_of _ a0
 obtain ⟨p1, q1, rfl, a1, b1⟩ := fitsAll_split (a := Vote.sc) (b := Motion.sc ++ Known.sc) b0
 obtain ⟨x1, rfl⟩ := Vote.of _ a1
 obtain ⟨p2, q2, rfl, a2, b2⟩ := fitsAll_split (a := Motion.sc) (b := Known.sc) b1
 obtain ⟨x2, rfl⟩ := Motion.of _ a2
 obtain ⟨x3, rfl⟩ := Known.of _ b2
 exact ⟨⟨k, x1, x2, x3⟩, rfl⟩
theorem Record.parts {x : Record} (h : fitsAll recZ x.flds) : fitsAll [numC] [.i x.k] ∧ fitsAll Vote.sc x.vo.flds ∧ fitsAll Motion.sc x.mo.flds ∧ fitsAll Known.sc x.kn.flds := by
 have sp : ∀ {a b : List Sc} {f g : List Fld}, f.length = a.length → fitsAll (a ++ b) (f ++ g) → fitsAll a f ∧ fitsAll b g := by
  intro a b f g hl hh
  obtain ⟨p, q, e, h1, h2⟩ := fitsAll_split hh
  obtain ⟨e1, e2⟩ := List.append_inj e (by rw [hl, fits_len h1])
  rw [e1, e2]
  exact ⟨h1, h2⟩
 obtain ⟨h1, h2⟩ := sp (a := [numC]) (f := [.i x.k]) rfl h
 obtain ⟨h3, h4⟩ := sp (a := Vote.sc) (f := x.vo.flds) rfl h2
 obtain ⟨h5, h6⟩ := sp (a := Motion.sc) (f := x.mo.flds) rfl h4
 exact ⟨h1, h3, h5, h6⟩
theorem Record.at_ (x : Record) : x.atoms = recAt (pvAll x.flds) := by
 have hk : recKind (pvAll x.flds) = x.k := rfl
 unfold recAt Record.atoms
 rw [hk]
 congr 1
 have hp : pvAll x.flds = [.i x.k] ++ (pvAll x.vo.flds ++ (pvAll x.mo.flds ++ pvAll x.kn.flds)) := by
  show pvAll ([.i x.k] ++ (x.vo.flds ++ (x.mo.flds ++ x.kn.flds))) = _
  rw [pvAll_app, pvAll_app, pvAll_app]
  rfl
 have lv : (pvAll x.vo.flds).length = 6 := by rw [pvAll_len]; rfl
 have lm : (pvAll x.mo.flds).length = 14 := by rw [pvAll_len]; rfl
 have lk : (pvAll x.kn.flds).length = 17 := by rw [pvAll_len]; rfl
 have cut : ∀ (p v r : List Pv) (n m : Nat), p.length = n → v.length = m → ((p ++ (v ++ r)).drop n).take m = v := fun p v r n m h1 h2 => by
  rw [List.drop_left' h1, List.take_left' h2]
 rw [hp]
 unfold Record.tail recSc recOff
 by_cases e1 : x.k = 1
 ·rw [if_pos e1, if_pos e1, if_pos e1, Vote.pv]
  rw [cut [.i x.k] _ _ 1 _ rfl (by rw [lv]; rfl)]
 by_cases e2 : x.k = 2
 ·rw [if_neg e1, if_pos e2, if_neg e1, if_pos e2, if_neg e1, if_pos e2, Motion.pv, ← List.append_assoc]
  rw [cut ([Pv.i x.k] ++ pvAll x.vo.flds) (pvAll x.mo.flds) (pvAll x.kn.flds) 7 Motion.sc.length (by rw [List.length_append, lv]; rfl) (by rw [lm]; rfl)]
 by_cases e3 : x.k = 3
 ·rw [if_neg e1, if_neg e2, if_pos (.inl e3), if_neg e1, if_neg e2, if_pos e3, if_neg e1, if_neg e2, if_pos e3, Known.pv, ← List.append_assoc, ← List.append_assoc]
  have := cut ([.i x.k] ++ pvAll x.vo.flds ++ pvAll x.mo.flds) (pvAll x.kn.flds) [] 21 Known.sc.length (by rw [List.length_append, List.length_append, lv, lm]; rfl) (by rw [lk]; rfl)
  rw [List.append_nil] at this
  rw [this]
 by_cases e4 : x.k = 4
 ·rw [if_neg e1, if_neg e2, if_pos (.inr e4), if_neg e1, if_neg e2, if_neg e3, if_pos e4, if_neg e1, if_neg e2, if_neg e3, if_pos e4, Known.pv, ← List.append_assoc, ← List.append_assoc]
  have := cut ([.i x.k] ++ pvAll x.vo.flds ++ pvAll x.mo.flds) (pvAll x.kn.flds) [] 21 Known.sc.length (by rw [List.length_append, List.length_append, lv, lm]; rfl) (by rw [lk]; rfl)
  rw [List.append_nil] at this
  rw [this]
 ·simp [e1, e2, e3, e4, atomsAll]
theorem Record.mpv (x y : Record) (h : pvAll x.flds = pvAll y.flds) : x.may = y.may := by
 obtain ⟨h1, h2⟩ := sub_inj (f := [.i x.k]) (f' := [.i y.k]) rfl h
 obtain ⟨h3, h4⟩ := sub_inj (f := x.vo.flds) (f' := y.vo.flds) rfl h2
 obtain ⟨h5, h6⟩ := sub_inj (f := x.mo.flds) (f' := y.mo.flds) rfl h4
 have hk : x.k = y.k := by simpa [pvAll, Fld.pv] using h1
 have hv := Vote.inj _ _ h3
 have hm := Motion.mpv _ _ h5
 have hn := Known.mpv _ _ h6
 simp only [Record.may, hk, hv, hm.1, hm.2, hn.1, hn.2]
theorem Record.ok {x : Record} (h : fitsAll recZ x.flds) : okL x.atoms = true := by
 obtain ⟨h1, h2, h3, h4⟩ := Record.parts h
 have o1 := fits_ok _ _ h2
 have o2 := fits_ok _ _ h3
 have o3 := fits_ok _ _ h4
 have o0 := fits_ok _ _ h1
 rw [← Vote.pv] at o1
 rw [← Motion.pv] at o2
 rw [← Known.pv] at o3
 have o0' : okL (intA x.k) = true := by rw [int_pv]; exact o0
 unfold Record.atoms Record.tail
 rw [okL_append, o0']
 split
 ·rw [o1]; rfl
 split
 ·rw [o2]; rfl
 split
 ·rw [o3]; rfl
 ·rfl
theorem Record.wts {x : Record} (h : fitsAll recZ x.flds) : wtL x.atoms ≤ 1099400000000 ∧ wtL x.mo.atoms ≤ 1099400000000 ∧ wtL x.kn.atoms ≤ 1099400000000 := by
 obtain ⟨h1, h2, h3, h4⟩ := Record.parts h
 have o1 := wtAll_le _ _ h2
 have o2 := wtAll_le _ _ h3
 have o3 := wtAll_le _ _ h4
 rw [← Vote.pv] at o1
 rw [← Motion.pv] at o2
 rw [← Known.pv] at o3
 have w1 : wtAll Vote.sc ≤ 1000 := Nat.le_of_ble_eq_true (by kernel_rfl)
 have w2 : wtAll Motion.sc ≤ 1000000000 := Nat.le_of_ble_eq_true (by kernel_rfl)
 have w3 : wtAll Known.sc ≤ 1000000000 := Nat.le_of_ble_eq_true (by kernel_rfl)
 refine ⟨?_, by omega, by omega⟩
 unfold Record.atoms Record.tail
 rw [wtL_append]
 have : wtL (intA x.k) = 6 := rfl
 rw [this]
 split
 ·omega
 split
 ·omega
 split
 ·omega
 ·simp [wtL]
theorem Record.vals (x : Record) : x.arr = (x.flds.map Fld.val).toArray := by
 apply Array.ext'
 simp [Record.arr, Vote.flds, Cert.flds, Header.flds, Block.flds, Motion.flds, Known.flds, Record.flds, Fld.val, Lst.fld]
theorem mayRec (x : Record) : recordK.may (pvAll x.flds) ↔ x.may = true :=
 ⟨fun ⟨y, q, r⟩ => by rw [← Record.mpv y x q]; exact r, fun q => ⟨x, rfl, q⟩⟩
theorem put_rec {f : FuncId} (hE : enters Tryz.prog f = true) (hput : ∀ (x : Record) (w : World), wtL x.atoms ≤ 1099400000000 → wtL x.mo.atoms ≤ 1099400000000 → wtL x.kn.atoms ≤ 1099400000000 → goods w.heap.size w x.flds → Calls Tryz.prog f #[.agg x.arr] w fun e w' => e = .returned (.tuple #[.string ⟨(outB (encZL x.atoms) (!okL x.atoms) x.odd).toArray⟩, .int .i64 (outE (!okL x.atoms) x.odd)]) ∧ Below w.heap.size w w') : PutC f recordK := by
 refine ⟨hE, fun lo fs w hfit hl => ?_⟩
 obtain ⟨x, rfl⟩ := Record.of fs hfit
 have hok := Record.ok hfit
 obtain ⟨w1, w2, w3⟩ := Record.wts hfit
 show Calls _ _ #[.agg (x.flds.map Fld.val).toArray] _ _
 rw [← Record.vals]
 refine (hput x w w1 w2 w3 hl.goods).mono ?_
 rintro e w' ⟨rfl, hb⟩
 refine ⟨_, _, rfl, hb, ?_⟩
 rw [x.odd_may hok, hok, ← encL_eq _ x.fit hok, Record.at_]
 cases hm : x.may with
 | true => exact .inl ⟨(mayRec x).2 hm, by simp [outB, recordK], by simp [outE]⟩
 | false => exact .inr ⟨fun q => (by rw [(mayRec x).1 q] at hm; cases hm), by simp [outB], by simp [outE]⟩
theorem rputRecord_c : PutC 100 recordK := put_rec (by kernel_rfl) fun x w h1 h2 h3 g => rputRecord_anyX x w h1 g
theorem grecord_x : RdX 188 recordK := ⟨by kernel_rfl, fun gb B a E w k ha hL => (grecord_g gb B a E w k ha hL).mono fun e w' ⟨k, fs, a', E', h1, h2, h3, h4, h5, h6, h7, h8⟩ => by
 refine ⟨recFs k fs, a', E', ?_, h2, h3, recFs_lie h5 h4, ⟨h7, ?_⟩, recFs_fit h5 h6⟩
 ·rw [h1, rec_vals (fits_len h6)]; rfl
 ·rcases h8 with q | ⟨q, ⟨er, q1, q2, q3⟩ | ⟨r, q1, q2, q3⟩⟩
  ·exact .inl q
  ·exact .inr ⟨q, .inl ⟨er, by show rdRec _ = _; unfold rdRec; rw [q1], q2, q3⟩⟩
  ·exact .inr ⟨q, .inr ⟨r, by show rdRec _ = _; unfold rdRec; rw [q1, recFs_pv], q2, q3⟩⟩⟩
end Go.Proofs.YtackcbpabjhmpaaGreat
