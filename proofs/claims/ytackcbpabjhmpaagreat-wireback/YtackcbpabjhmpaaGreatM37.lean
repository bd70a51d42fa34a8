import Derived.Test.YtackcbpabjhmpaaGreatM35
import Derived.Test.YtackcbpabjhmpaaGreatM36
import Derived.Test.YtackcbpabjhmpaaGreatM19
namespace Go.Proofs.YtackcbpabjhmpaaGreat
open Go.RowKit
set_option linter.unusedVariables false
set_option linter.unusedSimpArgs false
theorem rrecord_anyX (base b : Nat) (x : Record) (l : List Atom) (odd : Bool) (w : World) (hb : base ≤ b) (hL : wtL l + wtL x.atoms ≤ 1099400000000) (R : RefL w b l odd) (g : goods base w x.flds) :
  Calls Tryz.prog 190 #[.pointer (some ⟨b, 0, none⟩), .agg x.arr] w fun e w' => e = .returned (.tuple #[]) ∧ RefL w' b (l ++ x.atoms) (odd || x.odd) ∧ Kp base b w w' := by
 have h6 : wtL (intA x.k) = 6 := rfl
 simp only [Record.atoms, wtL_append, h6] at hL
 by_cases e1 : x.k = 1
 ·exact rrecord_w1 base b x _ rfl e1 l odd w hb (by simp only [Record.tail, e1, if_true] at hL; exact hL) R g
 by_cases e2 : x.k = 2
 ·exact rrecord_w2 base b x _ rfl e2 l odd w hb (by simp [Record.tail, e2] at hL; exact hL) R g
 by_cases e3 : x.k = 3
 ·exact rrecord_w3 base b x _ rfl e3 l odd w hb (by simp [Record.tail, e3] at hL; exact hL) R g
 by_cases e4 : x.k = 4
 ·exact rrecord_w4 base b x _ rfl e4 l odd w hb (by simp [Record.tail, e4] at hL; exact hL) R g
 by_cases e5 : x.k < 1
 ·exact rrecord_wa base b x _ rfl e5 l odd w hb (by omega) R g
 ·exact rrecord_wb base b x _ rfl (by omega) l odd w hb (by omega) R g
theorem Record.odd_may (x : Record) (h : okL x.atoms = true) : x.odd = !x.may := by
 simp only [Record.atoms, okL_append, Bool.and_eq_true] at h
 have ht := h.2
 by_cases e1 : x.k = 1
 ·simp only [Record.tail, e1, if_true] at ht
  simp [Record.odd, Record.tailOdd, Record.may, e1, Vote.odd_may _ ht]
  cases x.vo.may <;> cases x.mo.no <;> cases x.kn.no <;> rfl
 by_cases e2 : x.k = 2
 ·simp [Record.tail, e2] at ht
  simp [Record.odd, Record.tailOdd, Record.may, e2, Motion.odd_may _ ht]
  cases x.mo.may <;> cases x.vo.no <;> cases x.kn.no <;> rfl
 by_cases e3 : x.k = 3
 ·simp [Record.tail, e3] at ht
  simp [Record.odd, Record.tailOdd, Record.may, e3, Known.odd_may _ ht]
  cases x.kn.may <;> cases x.vo.no <;> cases x.mo.no <;> rfl
 by_cases e4 : x.k = 4
 ·simp [Record.tail, e4] at ht
  simp [Record.odd, Record.tailOdd, Record.may, e4, Known.odd_may _ ht]
  cases x.kn.may <;> cases x.vo.no <;> cases x.mo.no <;> rfl
 ·have hh : (decide (x.k < 1) || decide (4 < x.k)) = true := by
   by_cases h5 : x.k < 1
   ·simp [h5]
   ·simp [show 4 < x.k by omega]
  unfold Record.odd Record.may
  rw [hh, if_neg e1, if_neg e2, if_neg (by omega)]
  rfl
set_option maxRecDepth 8000 in
set_option maxHeartbeats 3200000 in
theorem rputRecord_anyX (x : Record) (w : World) (hL : wtL x.atoms ≤ 1099400000000) (g : goods w.heap.size w x.flds) :
  Calls Tryz.prog 100 #[.agg x.arr] w fun e w' => e = .returned (.tuple #[.string ⟨(outB (encZL x.atoms) (!okL x.atoms) x.odd).toArray⟩, .int .i64 (outE (!okL x.atoms) x.odd)]) ∧ Below w.heap.size w w' := by
 have hCn : x.arr.size = 38 := rfl
 obtain ⟨C, HC⟩ : ∃ C, Hid (C = x.arr) := ⟨_, rfl⟩
 rw [← HC.out] at hCn ⊢
 have R0 : RefL ((w.alloc (.cells C 158)).alloc (.cells #[.string ⟨#[]⟩, .bool false, .bool false] 86)) (w.heap.size + 1) [] false := by
  have h := Blk.new (w.alloc (.cells C 158)) #[.string ⟨#[]⟩, .bool false, .bool false] 86
  rw [World.size_alloc] at h
  exact h
 have bA : Below w.heap.size w ((w.alloc (.cells C 158)).alloc (.cells #[.string ⟨#[]⟩, .bool false, .bool false] 86)) := ((Below.refl _ _).alloc (Nat.le_refl _) _).alloc (by simp) _
 have kX := (Blk.new w C 158).alloc (.cells #[.string ⟨#[]⟩, .bool false, .bool false] 86)
 have g1 := g.below bA
 have key := rrecord_anyX w.heap.size (w.heap.size + 1) x [] false _ (by omega) (by simp only [wtL]; omega) R0 g1
 rw [← HC.out] at key
 clear g
 go_enter Tryz.func100, Tryz.ntmps100
 go_upto_region 2 with fail
 refine wp_region_list ?_
 refine wpList_plain rfl (fun K hK => ?_)
 go_simp
 refine hK _ _ ?_
 clear hK K
 refine wpList_load_whole (by kernel_rfl) 158 _ rfl w.heap.size rfl C _ _ kX Tryz.underlying158 rfl (by rw [hCn]; kernel_rfl) ?_
 refine wpList_on (by kernel_rfl) (fun K hK => ?_)
 go_simp
 refine key.mono ?_
 rintro e w1 ⟨rfl, R1, k1⟩
 refine hK _ _ ?_
 clear hK K
 refine wpList_nil ?_
 simp only [Exit.then]
 have R2 : RefAt w1 (w.heap.size + 1) (encZL x.atoms) (!okL x.atoms) x.odd := by
  have h := R1
  unfold RefL at h
  simpa using h
 have b1 := bA.trans k1.below
 clear R0 R1 g1 key
 go_wp2_with fail
 refine (rout_any (w.heap.size + 1) _ _ _ _ R2).mono ?_
 rintro e w2 ⟨rfl, b2⟩
 go_wp2
 go_ret2
 exact ⟨rfl, b1.trans (b2.mono b1.size)⟩
theorem ok_each {els : List Sc} : ∀ (es : List (List Pv)), (∀ e ∈ es, okL (atomsAll els e) = true) → okL (eachL (fun e => atomsAll els e) es) = true
 | [], _ => rfl
 | e :: es, h => by
  rw [eachL, okL_append, h e (by simp), ok_each es fun d hd => h d (by simp [hd])]
  rfl
mutual
theorem Sc.fits_ok : ∀ (c : Sc) (f : Fld), c.fits f → okL (c.atoms f.pv) = true
 | .num m, f, h => by
  obtain ⟨n, rfl⟩ := fits_num h
  rw [Sc.fits] at h
  simp [Fld.pv, Sc.atoms, okL, Atom.ok, h.1, h.2]
 | .flag, f, h => by
  obtain ⟨n, rfl⟩ := fits_flag h
  rfl
 | .dig, f, h => by
  obtain ⟨n, rfl⟩ := fits_dig h
  rfl
 | .text m, f, h => by
  obtain ⟨n, rfl⟩ := fits_text h
  rw [Sc.fits] at h
  simp [Fld.pv, Sc.atoms, textL, okL, Atom.ok, h]
 | .list m els, f, h => by
  cases f with
  | l la lc es =>
   rw [Sc.fits] at h
   have hr : ∀ e ∈ pvRows es, okL (atomsAll els e) = true := fun e he => by
    rw [pvRows_map] at he
    obtain ⟨d, hd, rfl⟩ := List.mem_map.1 he
    exact fits_ok els d (h.2 d hd)
   show okL (Sc.atoms (.list m els) (.l (pvRows es))) = true
   rw [Sc.atoms]
   simp only [okL, Atom.ok, pvRows_len, ok_each _ hr, Bool.and_true, Bool.and_eq_true, decide_eq_true_eq]
   exact ⟨by omega, h.1⟩
  | b n => rw [Sc.fits] at h <;> first | exact h.elim | simp
  | i n => rw [Sc.fits] at h <;> first | exact h.elim | simp
  | d n => rw [Sc.fits] at h <;> first | exact h.elim | simp
  | s n => rw [Sc.fits] at h <;> first | exact h.elim | simp
theorem fits_ok : ∀ (cs : List Sc) (fs : List Fld), fitsAll cs fs → okL (atomsAll cs (pvAll fs)) = true
 | [], fs, h => by
  rw [fits_nil h]
  rfl
 | c :: cs, fs, h => by
  obtain ⟨f, gs, rfl, h1, h2⟩ := fits_cons h
  show okL (atomsAll (c :: cs) (f.pv :: pvAll gs)) = true
  rw [atomsAll, okL_append, Sc.fits_ok c f h1, fits_ok cs gs h2]
  rfl
end
theorem rows_all {α : Type} {flds : α → List Fld} {m : α → Bool} (h : ∀ x y, pvAll (flds x) = pvAll (flds y) → m x = m y) : ∀ xs ys : List α, pvRows (xs.map flds) = pvRows (ys.map flds) → xs.all m = ys.all m ∧ xs.length = ys.length
 | [], [], _ => ⟨rfl, rfl⟩
 | [], y :: ys, q => by cases q
 | x :: xs, [], q => by cases q
 | x :: xs, y :: ys, q => by
  simp only [List.map_cons, pvRows] at q
  injection q with q1 q2
  obtain ⟨i1, i2⟩ := rows_all h xs ys q2
  exact ⟨by rw [List.all_cons, List.all_cons, h x y q1, i1], by rw [List.length_cons, List.length_cons, i2]⟩
theorem rows_inj {α : Type} {flds : α → List Fld} (h : ∀ x y, pvAll (flds x) = pvAll (flds y) → x = y) : ∀ xs ys : List α, pvRows (xs.map flds) = pvRows (ys.map flds) → xs = ys
 | [], [], _ => rfl
 | [], y :: ys, q => by cases q
 | x :: xs, [], q => by cases q
 | x :: xs, y :: ys, q => by
  simp only [List.map_cons, pvRows] at q
  injection q with q1 q2
  rw [h x y q1, rows_inj h xs ys q2]
theorem sub_inj {f g f' g' : List Fld} (hl : f.length = f'.length) (h : pvAll (f ++ g) = pvAll (f' ++ g')) : pvAll f = pvAll f' ∧ pvAll g = pvAll g' := by
 rw [pvAll_app, pvAll_app] at h
 exact List.append_inj h (by rw [pvAll_len, pvAll_len, hl])
theorem int_inj (x y : Int) (h : pvAll (intF x) = pvAll (intF y)) : x = y := by simpa [intF, pvAll, Fld.pv] using h
theorem pair_inj (x y : Int × Int) (h : pvAll (pairF x) = pvAll (pairF y)) : x = y := by
 simp [pairF, pvAll, Fld.pv] at h
 exact Prod.ext h.1 h.2
theorem Turn.inj (x y : Turn) (h : pvAll x.flds = pvAll y.flds) : x = y := by
 simp [Turn.flds, pvAll, Fld.pv] at h
 cases x; cases y; simp_all
theorem Vote.inj (x y : Vote) (h : pvAll x.flds = pvAll y.flds) : x = y := by
 simp [Vote.flds, pvAll, Fld.pv] at h
 cases x; cases y; simp_all
theorem Header.inj (x y : Header) (h : pvAll x.flds = pvAll y.flds) : x = y := by
 simp [Header.flds, pvAll, Fld.pv] at h
 cases x; cases y; simp_all
theorem Vote.mpv (x y : Vote) (h : pvAll x.flds = pvAll y.flds) : x.may = y.may := by rw [Vote.inj x y h]
theorem Guilt.mpv (x y : Guilt) (h : pvAll x.flds = pvAll y.flds) : x.may = y.may := by
 obtain ⟨h1, h2⟩ := sub_inj (f := x.a.flds) (f' := y.a.flds) rfl h
 rw [Guilt.may, Guilt.may, Vote.inj _ _ h1, Vote.inj _ _ h2]
theorem Cert.mpv (x y : Cert) (h : pvAll x.flds = pvAll y.flds) : x.may = y.may ∧ x.no = y.no := by
 simp only [Cert.flds, pvAll, Fld.pv, Lst.fld, List.cons.injEq, Pv.i.injEq, Pv.b.injEq, Pv.d.injEq, Pv.l.injEq, and_true] at h
 obtain ⟨h1, h2, h3, h4, h5, h6⟩ := h
 have h7 := rows_inj int_inj _ _ h6
 simp only [Cert.may, Cert.no, h1, h2, h3, h4, h5, h7, and_self]
theorem Proof.mpv (x y : Proof) (h : pvAll x.flds = pvAll y.flds) : x.may = y.may := by
 simp only [Proof.flds, pvAll, Fld.pv, Lst.fld, List.cons.injEq, Pv.s.injEq, Pv.b.injEq, Pv.l.injEq, and_true] at h
 obtain ⟨h1, h2, h3, h4⟩ := h
 have h7 := rows_inj Turn.inj _ _ h1
 simp only [Proof.may, h2, h3, h4, h7]
theorem Sight.mpv (x y : Sight) (h : pvAll x.flds = pvAll y.flds) : x.may = y.may := by
 obtain ⟨h1, h2⟩ := sub_inj (f := x.hd.flds) (f' := y.hd.flds) rfl h
 obtain ⟨h3, h4⟩ := sub_inj (f := x.ce.flds) (f' := y.ce.flds) rfl h2
 simp only [pvAll, Fld.pv, Lst.fld, List.cons.injEq, Pv.l.injEq, and_true] at h4
 rw [Sight.may, Sight.may, (Cert.mpv _ _ h3).1, rows_inj pair_inj _ _ h4]
theorem Tx.mpv (x y : Tx) (h : pvAll x.flds = pvAll y.flds) : x.may = y.may := by
 simp only [Tx.flds, pvAll, Fld.pv, Lst.fld, List.cons.injEq, Pv.i.injEq, Pv.s.injEq, Pv.l.injEq, and_true] at h
 obtain ⟨h1, h2, h3, h4, h5, h6, h7, h8, h9, h10, h11⟩ := h
 have e9 := rows_inj int_inj _ _ h9
 have e10 := rows_all Sight.mpv _ _ h10
 have e11 := rows_all Proof.mpv _ _ h11
 simp only [Tx.may, Tx.bad1, Tx.bad2, Tx.bad3, Tx.bad4, h1, h2, h6, h7, h8, e9, e10.1, e10.2, e11.1, e11.2]
theorem Block.mpv (x y : Block) (h : pvAll x.flds = pvAll y.flds) : x.may = y.may ∧ x.no = y.no := by
 obtain ⟨h1, h2⟩ := sub_inj (f := x.hd.flds) (f' := y.hd.flds) rfl h
 simp only [pvAll, Fld.pv, Lst.fld, List.cons.injEq, Pv.l.injEq, and_true] at h2
 have e1 := rows_all Tx.mpv _ _ h2.1
 have e2 := rows_all Guilt.mpv _ _ h2.2
 simp only [Block.may, Block.no, Header.inj _ _ h1, e1.1, e1.2, e2.1, e2.2, and_self]
theorem Motion.mpv (x y : Motion) (h : pvAll x.flds = pvAll y.flds) : x.may = y.may ∧ x.no = y.no := by
 obtain ⟨h1, h2⟩ := sub_inj (f := [.i x.ro, .i x.fr]) (f' := [.i y.ro, .i y.fr]) rfl h
 obtain ⟨h3, h4⟩ := sub_inj (f := x.bl.flds) (f' := y.bl.flds) rfl h2
 simp only [pvAll, Fld.pv, Lst.fld, List.cons.injEq, Pv.l.injEq, Pv.i.injEq, and_true] at h1 h4
 have e1 := rows_all (fun a b q => (Cert.mpv a b q).1) _ _ h4
 have e2 := Block.mpv _ _ h3
 simp only [Motion.may, Motion.no, h1.1, h1.2, e1.1, e1.2, e2.1, e2.2, and_self]
theorem Known.mpv (x y : Known) (h : pvAll x.flds = pvAll y.flds) : x.may = y.may ∧ x.no = y.no := by
 obtain ⟨h1, h2⟩ := sub_inj (f := x.ce.flds) (f' := y.ce.flds) rfl h
 have e1 := Cert.mpv _ _ h1
 have e2 := Block.mpv _ _ h2
 simp only [Known.may, Known.no, e1.1, e1.2, e2.1, e2.2, and_self]
theorem Message.mpv (x y : Message) (h : pvAll x.flds = pvAll y.flds) : x.may = y.may := by
 simp only [Message.flds, pvAll, Fld.pv, Lst.fld, List.cons.injEq, Pv.i.injEq, Pv.l.injEq, and_true] at h
 obtain ⟨h1, h2, h3, h4, h5, h6, h7⟩ := h
 have e4 := rows_all Vote.mpv _ _ h4
 have e5 := rows_all (fun a b q => (Motion.mpv a b q).1) _ _ h5
 have e6 := rows_all (fun a b q => (Known.mpv a b q).1) _ _ h6
 have e7 := rows_all Tx.mpv _ _ h7
 simp only [Message.may, h1, e4.1, e5.1, e6.1, e7.1]
def thingK {X : Type} (sc : List Sc) (flds : X → List Fld) (m : X → Bool) : Kd := { sc := sc, wrap := .agg, rd := readAll sc, may := fun vs => ∃ x, pvAll (flds x) = vs ∧ m x = true, enc := fun vs => encL (atomsAll sc vs) }
theorem mayK {X : Type} {sc : List Sc} {flds : X → List Fld} {m : X → Bool} (h : ∀ x y, pvAll (flds x) = pvAll (flds y) → m x = m y) (x : X) : (thingK sc flds m).may (pvAll (flds x)) ↔ m x = true :=
 ⟨fun ⟨y, q, r⟩ => by rw [← h y x q]; exact r, fun q => ⟨x, rfl, q⟩⟩
theorem any_may {X : Type} {sc : List Sc} {flds : X → List Fld} {m : X → Bool} (of : ∀ e, fitsAll sc e → ∃ x, flds x = e) (hm : ∀ x, m x = true) : ∀ fs, fitsAll sc fs → (thingK sc flds m).may (pvAll fs) := fun fs h => by
 obtain ⟨x, rfl⟩ := of fs h
 exact ⟨x, rfl, hm x⟩
theorem put_of {X : Type} {f : FuncId} {sc : List Sc} {flds : X → List Fld} {atoms : X → List Atom} {m odd : X → Bool} (of : ∀ e, fitsAll sc e → ∃ x, flds x = e) (pv : ∀ x, atoms x = atomsAll sc (pvAll (flds x))) (mpv : ∀ x y, pvAll (flds x) = pvAll (flds y) → m x = m y) (om : ∀ x, okL (atoms x) = true → odd x = !m x) (hf : ∀ x, fitL (atoms x)) (hE : enters Tryz.prog f = true) (hwt : wtAll sc ≤ 1099400000000)
  (hput : ∀ x w, fitsAll sc (flds x) → wtL (atoms x) ≤ 1099400000000 → goods w.heap.size w (flds x) → Calls Tryz.prog f #[.agg ((flds x).map Fld.val).toArray] w fun e w' => e = .returned (.tuple #[.string ⟨(outB (encZL (atoms x)) (!okL (atoms x)) (odd x)).toArray⟩, .int .i64 (outE (!okL (atoms x)) (odd x))]) ∧ Below w.heap.size w w') : PutC f (thingK sc flds m) := by
 refine ⟨hE, fun lo fs w hfit hl => ?_⟩
 obtain ⟨x, rfl⟩ := of fs hfit
 have hok : okL (atoms x) = true := by rw [pv]; exact fits_ok _ _ hfit
 refine (hput x w hfit (by rw [pv]; exact Nat.le_trans (wtAll_le _ _ hfit) hwt) hl.goods).mono ?_
 rintro e w' ⟨rfl, hb⟩
 refine ⟨_, _, rfl, hb, ?_⟩
 rw [om x hok, hok, ← encL_eq _ (hf x) hok, pv]
 cases hm : m x with
 | true => exact .inl ⟨(mayK mpv x).2 hm, by simp [outB, thingK], by simp [outE]⟩
 | false => exact .inr ⟨fun q => (by rw [(mayK mpv x).1 q] at hm; cases hm), by simp [outB], by simp [outE]⟩
abbrev headerK := thingK Header.sc Header.flds Header.any
abbrev certK := thingK Cert.sc Cert.flds Cert.may
abbrev proofK := thingK Proof.sc Proof.flds Proof.may
abbrev txK := thingK Tx.sc Tx.flds Tx.may
abbrev blockK := thingK Block.sc Block.flds Block.may
abbrev messageK := thingK Message.sc Message.flds Message.may
theorem rputHeader_c : PutC 26 headerK := put_of (odd := fun _ => false) Header.of Header.pv (fun _ _ _ => rfl) (fun _ _ => rfl) Header.fit (by kernel_rfl) (Nat.le_of_ble_eq_true (by kernel_rfl)) fun x w _ h g => by rw [← Header.vals]; exact rputHeader_anyX x w h g
theorem rputCert_c : PutC 18 certK := put_of Cert.of Cert.pv (fun a b q => (Cert.mpv a b q).1) Cert.odd_may Cert.fit (by kernel_rfl) (Nat.le_of_ble_eq_true (by kernel_rfl)) fun x w _ h g => by rw [← Cert.vals]; exact rputCert_anyX x w h g
theorem rputProof_c : PutC 30 proofK := put_of Proof.of Proof.pv Proof.mpv Proof.odd_may Proof.fit (by kernel_rfl) (Nat.le_of_ble_eq_true (by kernel_rfl)) fun x w _ h g => by rw [← Proof.vals]; exact rputProof_anyX x w h g
theorem rputTx_c : PutC 34 txK := put_of Tx.of Tx.pv Tx.mpv Tx.odd_may Tx.fit (by kernel_rfl) (Nat.le_of_ble_eq_true (by kernel_rfl)) fun x w _ h g => by rw [← Tx.vals]; exact rputTx_anyX x w h g
theorem rputBlock_c : PutC 92 blockK := put_of Block.of Block.pv (fun a b q => (Block.mpv a b q).1) Block.odd_may Block.fit (by kernel_rfl) (Nat.le_of_ble_eq_true (by kernel_rfl)) fun x w _ h g => by rw [← Block.vals]; exact rputBlock_anyX x w h g
theorem rputMessage_c : PutC 96 messageK := put_of Message.of Message.pv Message.mpv Message.odd_may Message.fit (by kernel_rfl) (Nat.le_of_ble_eq_true (by kernel_rfl)) fun x w _ h g => by rw [← Message.vals]; exact rputMessage_anyX x w h g
def viewZ (c wi ep h st : Int) (ps : List (Int × Int)) : List UInt8 := numZ c ++ numZ wi ++ numZ ep ++ numZ h ++ be st 8 ++ benchZ ps
def viewFar (c wi ep h : Int) (ps : List (Int × Int)) : Bool := !inNum c || !inNum wi || !inNum ep || !inNum h || benchFar ps
def viewOdd (wi ep : Int) (ps : List (Int × Int)) : Bool := benchOdd ps || (decide (wi < 1) || decide (8 < wi) || decide (ep < 1))
def resultZ (co us va : Int) (ps : List (Int × Int)) : List UInt8 := numZ co ++ numZ us ++ numZ va ++ numZ ps.length ++ pairsZ ps
def resultFar (co us va : Int) (ps : List (Int × Int)) : Bool := !inNum co || !inNum us || !inNum va || (decide ((64 : Int) < ps.length) || !inNum ps.length || pairsFar ps)
set_option maxHeartbeats 3200000 in
theorem rview_any (base b : Nat) (c : Int) (wi : Int) (ep : Int) (h : Int) (st : Int) (la : Option Addr) (lc : Nat) (ps : List (Int × Int)) (B : List UInt8) (far odd : Bool) (w : World) (hb : base ≤ b) (bc : -9223372036854775808 ≤ c ∧ c ≤ 9223372036854775807) (bwi : -9223372036854775808 ≤ wi ∧ wi ≤ 9223372036854775807) (bep : -9223372036854775808 ≤ ep ∧ ep ≤ 9223372036854775807) (bh : -9223372036854775808 ≤ h ∧ h ≤ 9223372036854775807) (bst : 0 ≤ st ∧ st ≤ 18446744073709551615) (hn : ps.length ≤ 65536) (hB : B.length ≤ 1099400000000) (R : RefAt w b B far odd) (hps : PairsLt base w la ps) :
  Calls Tryz.prog 207 #[.pointer (some ⟨b, 0, none⟩), .agg #[.int .i64 c, .int .i64 wi, .int .i64 ep, .int .i64 h, .int .u64 st, .slice la ps.length lc]] w fun e w' => e = .returned (.tuple #[]) ∧ RefAt w' b (B ++ viewZ c wi ep h st ps) (far || viewFar c wi ep h ps) (odd || viewOdd wi ep ps) ∧ Kp base b w w' := by
 have hlt := Blk.lt R
 have hB0 : base ≤ w.heap.size := Nat.le_trans hb (Nat.le_of_lt hlt)
 have bA : Below w.heap.size w (w.alloc (.cells #[.int .i64 c, .int .i64 wi, .int .i64 ep, .int .i64 h, .int .u64 st, .slice la ps.length lc] 173)) := (Below.refl _ _).alloc (Nat.le_refl _) _
 have X0 := Blk.new w #[.int .i64 c, .int .i64 wi, .int .i64 ep, .int .i64 h, .int .u64 st, .slice la ps.length lc] 173
 have K0 : Kp base b w (w.alloc (.cells #[.int .i64 c, .int .i64 wi, .int .i64 ep, .int .i64 h, .int .u64 st, .slice la ps.length lc] 173)) := Kp.of_below bA hB0
 have R0 := R.below bA
 have hXb : w.heap.size ≠ b := by omega
 go_enter Tryz.func207, Tryz.ntmps207
 have q0 := X0.cell 0
 simp only [List.getElem?_toArray, List.getElem?_cons_zero] at q0
 go_wp2_with fail
 refine (rnum_any base b c (B) (far) (odd) _ hb bc (by omega) R0).mono ?_
 rintro e w1 ⟨rfl, R1, k1⟩
 have L1 : (B ++ numZ c).length ≤ B.length + 6 := by rw [List.length_append]; have := numZ_len c; omega
 have X1 := X0.kp k1 hXb
 have K1 := K0.trans k1
 clear q0
 have q1 := X1.cell 1
 simp only [List.getElem?_toArray, List.getElem?_cons_succ, List.getElem?_cons_zero] at q1
 go_wp2_with fail
 refine (rnum_any base b wi (B ++ numZ c) (far || !inNum c) (odd) _ hb bwi (by omega) R1).mono ?_
 rintro e w2 ⟨rfl, R2, k2⟩
 have L2 : (B ++ numZ c ++ numZ wi).length ≤ B.length + 12 := by rw [List.length_append]; have := numZ_len wi; omega
 have X2 := X1.kp k2 hXb
 have K2 := K1.trans k2
 clear q1
 have q2 := X2.cell 2
 simp only [List.getElem?_toArray, List.getElem?_cons_succ, List.getElem?_cons_zero] at q2
 go_wp2_with fail
 refine (rnum_any base b ep (B ++ numZ c ++ numZ wi) (far || !inNum c || !inNum wi) (odd) _ hb bep (by omega) R2).mono ?_
 rintro e w3 ⟨rfl, R3, k3⟩
 have L3 : (B ++ numZ c ++ numZ wi ++ numZ ep).length ≤ B.length + 18 := by rw [List.length_append]; have := numZ_len ep; omega
 have X3 := X2.kp k3 hXb
 have K3 := K2.trans k3
 clear q2
 have q3 := X3.cell 3
 simp only [List.getElem?_toArray, List.getElem?_cons_succ, List.getElem?_cons_zero] at q3
 go_wp2_with fail
 refine (rnum_any base b h (B ++ numZ c ++ numZ wi ++ numZ ep) (far || !inNum c || !inNum wi || !inNum ep) (odd) _ hb bh (by omega) R3).mono ?_
 rintro e w4 ⟨rfl, R4, k4⟩
 have L4 : (B ++ numZ c ++ numZ wi ++ numZ ep ++ numZ h).length ≤ B.length + 24 := by rw [List.length_append]; have := numZ_len h; omega
 have X4 := X3.kp k4 hXb
 have K4 := K3.trans k4
 clear q3
 have q4 := X4.cell 4
 simp only [List.getElem?_toArray, List.getElem?_cons_succ, List.getElem?_cons_zero] at q4
 go_wp2_with fail
 refine (rdig_any base b st (B ++ numZ c ++ numZ wi ++ numZ ep ++ numZ h) (far || !inNum c || !inNum wi || !inNum ep || !inNum h) (odd) _ hb bst (by omega) R4).mono ?_
 rintro e w5 ⟨rfl, R5, k5⟩
 have L5 : (B ++ numZ c ++ numZ wi ++ numZ ep ++ numZ h ++ be st 8).length ≤ B.length + 32 := by rw [List.length_append]; have := be_len st 8; omega
 have X5 := X4.kp k5 hXb
 have K5 := K4.trans k5
 clear q4
 have q5 := X5.cell 5
 simp only [List.getElem?_toArray, List.getElem?_cons_succ, List.getElem?_cons_zero] at q5
 have ps5 := hps.kp K5
 go_wp2_with fail
 refine (rbench_any base b la lc ps _ _ odd _ hb (by omega) R5 ps5).mono ?_
 rintro e w6 ⟨rfl, R6, k6⟩
 have X6 := X5.kp k6 hXb
 have K6 := K5.trans k6
 have EB : B ++ numZ c ++ numZ wi ++ numZ ep ++ numZ h ++ be st 8 ++ benchZ ps = B ++ viewZ c wi ep h st ps := by simp [viewZ, List.append_assoc]
 have EF : (far || !inNum c || !inNum wi || !inNum ep || !inNum h || benchFar ps) = (far || viewFar c wi ep h ps) := by simp [viewFar, Bool.or_assoc]
 rw [EB, EF] at R6
 clear EB EF L1 L2 L3 L4 L5 k1 k2 k3 k4 k5 k6 q5 ps5 hps R5
 have q1 := X6.cell 1
 have q2 := X6.cell 2
 simp only [List.getElem?_toArray, List.getElem?_cons_succ, List.getElem?_cons_zero] at q1 q2
 by_cases h1 : wi < 1
 ·skip
  go_wp2_with fail
  refine (rodd_any base b true _ _ _ _ hb R6).mono ?_
  rintro e w7 ⟨rfl, R7, k7⟩
  rw [show (odd || benchOdd ps || true) = (odd || viewOdd wi ep ps) by simp [viewOdd, h1]] at R7
  go_wp2
  go_end0
  exact ⟨rfl, R7, K6.trans k7⟩
 ·by_cases h2 : 8 < wi
  ·skip
   go_wp2_with fail
   refine (rodd_any base b true _ _ _ _ hb R6).mono ?_
   rintro e w7 ⟨rfl, R7, k7⟩
   rw [show (odd || benchOdd ps || true) = (odd || viewOdd wi ep ps) by simp [viewOdd, h2]] at R7
   go_wp2
   go_end0
   exact ⟨rfl, R7, K6.trans k7⟩
  ·skip
   go_wp2_with fail
   refine (rodd_any base b (decide (wi < 1) || decide (8 < wi) || decide (ep < 1)) _ _ _ _ hb R6).mono ?_
   rintro e w7 ⟨rfl, R7, k7⟩
   rw [show (odd || benchOdd ps || (decide (wi < 1) || decide (8 < wi) || decide (ep < 1))) = (odd || viewOdd wi ep ps) by rw [viewOdd, Bool.or_assoc]] at R7
   go_wp2
   go_end0
   exact ⟨rfl, R7, K6.trans k7⟩
set_option maxHeartbeats 3200000 in
theorem rresult_any (base b : Nat) (co : Int) (us : Int) (va : Int) (la : Option Addr) (lc : Nat) (ps : List (Int × Int)) (B : List UInt8) (far odd : Bool) (w : World) (hb : base ≤ b) (bco : -9223372036854775808 ≤ co ∧ co ≤ 9223372036854775807) (bus : -9223372036854775808 ≤ us ∧ us ≤ 9223372036854775807) (bva : -9223372036854775808 ≤ va ∧ va ≤ 9223372036854775807) (hn : ps.length ≤ 65536) (hB : B.length ≤ 1099400000000) (R : RefAt w b B far odd) (hps : PairsLt base w la ps) :
  Calls Tryz.prog 213 #[.pointer (some ⟨b, 0, none⟩), .agg #[.int .i64 co, .int .i64 us, .int .i64 va, .slice la ps.length lc]] w fun e w' => e = .returned (.tuple #[]) ∧ RefAt w' b (B ++ resultZ co us va ps) (far || resultFar co us va ps) odd ∧ Kp base b w w' := by
 have hlt := Blk.lt R
 have hB0 : base ≤ w.heap.size := Nat.le_trans hb (Nat.le_of_lt hlt)
 have bA : Below w.heap.size w (w.alloc (.cells #[.int .i64 co, .int .i64 us, .int .i64 va, .slice la ps.length lc] 179)) := (Below.refl _ _).alloc (Nat.le_refl _) _
 have X0 := Blk.new w #[.int .i64 co, .int .i64 us, .int .i64 va, .slice la ps.length lc] 179
 have K0 : Kp base b w (w.alloc (.cells #[.int .i64 co, .int .i64 us, .int .i64 va, .slice la ps.length lc] 179)) := Kp.of_below bA hB0
 have R0 := R.below bA
 have hXb : w.heap.size ≠ b := by omega
 go_enter Tryz.func213, Tryz.ntmps213
 have q0 := X0.cell 0
 simp only [List.getElem?_toArray, List.getElem?_cons_zero] at q0
 go_wp2_with fail
 refine (rnum_any base b co (B) (far) (odd) _ hb bco (by omega) R0).mono ?_
 rintro e w1 ⟨rfl, R1, k1⟩
 have L1 : (B ++ numZ co).length ≤ B.length + 6 := by rw [List.length_append]; have := numZ_len co; omega
 have X1 := X0.kp k1 hXb
 have K1 := K0.trans k1
 clear q0
 have q1 := X1.cell 1
 simp only [List.getElem?_toArray, List.getElem?_cons_succ, List.getElem?_cons_zero] at q1
 go_wp2_with fail
 refine (rnum_any base b us (B ++ numZ co) (far || !inNum co) (odd) _ hb bus (by omega) R1).mono ?_
 rintro e w2 ⟨rfl, R2, k2⟩
 have L2 : (B ++ numZ co ++ numZ us).length ≤ B.length + 12 := by rw [List.length_append]; have := numZ_len us; omega
 have X2 := X1.kp k2 hXb
 have K2 := K1.trans k2
 clear q1
 have q2 := X2.cell 2
 simp only [List.getElem?_toArray, List.getElem?_cons_succ, List.getElem?_cons_zero] at q2
 go_wp2_with fail
 refine (rnum_any base b va (B ++ numZ co ++ numZ us) (far || !inNum co || !inNum us) (odd) _ hb bva (by omega) R2).mono ?_
 rintro e w3 ⟨rfl, R3, k3⟩
 have L3 : (B ++ numZ co ++ numZ us ++ numZ va).length ≤ B.length + 18 := by rw [List.length_append]; have := numZ_len va; omega
 have X3 := X2.kp k3 hXb
 have K3 := K2.trans k3
 clear q2
 have q3 := X3.cell 3
 simp only [List.getElem?_toArray, List.getElem?_cons_succ, List.getElem?_cons_zero] at q3
 go_wp2_with fail
 refine (rcount_any base b (ps.length : Int) 64 _ _ odd _ hb (by omega) (by omega) R3).mono ?_
 rintro e w4 ⟨rfl, R4, k4⟩
 have X4 := X3.kp k4 hXb
 have K4 := K3.trans k4
 have l4 := numZ_len (ps.length : Int)
 generalize hBB : B ++ numZ co ++ numZ us ++ numZ va ++ numZ (ps.length : Int) = BB at *
 generalize hFF : (far || !inNum co || !inNum us || !inNum va || decide ((64 : Int) < ps.length) || !inNum ps.length) = FF at *
 have HB := show Hid (_ = _) from hBB
 have HF := show Hid (_ = _) from hFF
 have hBL : BB.length ≤ 1099400001000 := by rw [← hBB, List.length_append]; omega
 clear hBB hFF L1 L2 L3 k1 k2 k3 R3 q3
 have q3 := X4.cell 3
 simp only [List.getElem?_toArray, List.getElem?_cons_succ, List.getElem?_cons_zero] at q3
 have hX4 := X4.lt
 go_wp2_with fail
 go_loopw [4] (fun iv wv => ∃ (k : Nat), k ≤ ps.length ∧ iv = .int .i64 k ∧ RefAt wv b (BB ++ pairsZ (ps.take k)) (FF || pairsFar (ps.take k)) odd ∧ Kp base b w4 wv) (fun iv _ => ps.length - (intOf iv).toNat)
 case atStart => exact ⟨0, Nat.zero_le _, rfl, by simpa [pairsZ, pairsFar] using R4, Kp.refl _ _ _⟩
 case round =>
  obtain ⟨k, hk, rfl, Rk, Kk⟩ := hrel
  have Xk := X4.kp Kk hXb
  have u3 := Xk.cell 3
  simp only [List.getElem?_toArray, List.getElem?_cons_succ, List.getElem?_cons_zero] at u3
  have hXk := Xk.lt
  by_cases hlt : k < ps.length
  ·have hlt' : (k : Int) < (ps.length : Int) := by omega
   have Hz := show Hid (_ = _) from pairsZ_take ps k ps[k] (List.getElem?_eq_getElem hlt)
   have Hf := show Hid (_ = _) from pairsFar_take ps k ps[k] (List.getElem?_eq_getElem hlt)
   have hlz : (BB ++ pairsZ (ps.take k)).length ≤ 1099401000000 := by
    have := pairsZ_len (ps.take k)
    rw [List.length_take] at this
    rw [List.length_append]; omega
   obtain ⟨hbd, h0 | ⟨rb, ro, rfl, hrl, hc⟩⟩ := (hps.kp K4).kp Kk
   ·subst h0; simp at hlt
   obtain ⟨y0, y1⟩ := hc k ps[k] (List.getElem?_eq_getElem hlt)
   obtain ⟨hp1, hp2⟩ := hbd _ (List.getElem_mem hlt)
   generalize ps[k] = p at *
   obtain ⟨pa, pc⟩ := p
   simp only at y0 y1 hp1 hp2 Hz Hf
   clear hc hbd
   go_wp2_with fail
   refine (rnum_any base b pa _ _ odd _ hb hp1 (by omega) Rk).mono ?_
   rintro e w5 ⟨rfl, R5, k5⟩
   have z1 := numZ_len pa
   have L5 : (BB ++ pairsZ (ps.take k) ++ numZ pa).length ≤ 1099401000010 := by rw [List.length_append]; omega
   have y2 : w5.cell? ⟨rb, ro + k * 2 + 1, none⟩ = some (.int .i64 pc) := by rw [k5.below.cell (p := ⟨rb, ro + k * 2 + 1, none⟩) hrl]; exact y1
   have X5 := Xk.kp k5 hXb
   have v3 := X5.cell 3
   simp only [List.getElem?_toArray, List.getElem?_cons_succ, List.getElem?_cons_zero] at v3
   go_wp2_with fail
   refine (rnum_any base b pc _ _ odd _ hb hp2 (by omega) R5).mono ?_
   rintro e w6 ⟨rfl, R6, k6⟩
   have HR : Hid (RefAt w6 b (BB ++ pairsZ (ps.take (k + 1))) (FF || pairsFar (ps.take (k + 1))) odd) := by
    show RefAt _ _ _ _ _
    rw [Hz.out, Hf.out]
    simpa [List.append_assoc, Bool.or_assoc] using R6
   clear R6 R5 Rk Hz Hf
   go_wp2
   exact ⟨⟨k + 1, by omega, by go_num, HR.out, Kk.trans (k5.trans k6)⟩, by simp [intOf]; omega⟩
  ·have hkk : k = ps.length := by omega
   have Hf : Hid (RefAt wr b (B ++ resultZ co us va ps) (far || resultFar co us va ps) odd) := by
    have h := Rk
    rw [hkk, List.take_length, ← HB.out, ← HF.out] at h
    show RefAt _ _ _ _ _
    unfold resultZ resultFar
    simpa [List.append_assoc, Bool.or_assoc] using h
   have hge : ¬ (k : Int) < (ps.length : Int) := by omega
   clear hkk Rk
   go_wp2
   go_end0
   exact ⟨rfl, Hf.out, K4.trans Kk⟩
end Go.Proofs.YtackcbpabjhmpaaGreat
