/- The answer's writing of a record. -/
import Derived.Test.YtgppnghnjdkfdaaGreatXRef81
import Derived.Test.YtgppnghnjdkfdaaGreatXRef82
import Derived.Test.YtgppnghnjdkfdaaGreatXRef83
import Derived.Test.YtgppnghnjdkfdaaGreatXRef84
import Derived.Test.YtgppnghnjdkfdaaGreatXRef8a
import Derived.Test.YtgppnghnjdkfdaaGreatXRef8b
import Derived.Test.YtgppnghnjdkfdaaGreatWM8
import Derived.Test.YtgppnghnjdkfdaaGreatXWalk6
import Derived.Test.YtgppnghnjdkfdaaGreatWMa
import Derived.Test.YtgppnghnjdkfdaaGreatRows
import Derived.Test.YtgppnghnjdkfdaaGreatWM3
import Derived.WalkKit
import Derived.ProofKit
import Derived.OpenShut
import Derived.ChangeOld
import Derived.ChangeArms
import Derived.Deep.Slices

namespace Go.Proofs.YtgppnghnjdkfdaaGreat
open Go.RowKit
set_option linter.unusedVariables false
set_option linter.unusedSimpArgs false

theorem rrecord_anyX (base b : Nat) (x : Record) (l : List Atom) (odd : Bool) (w : World) (hb : base ≤ b) (hL : wtL l + wtL x.atoms ≤ 1099400000000) (R : RefL w b l odd) (g : goods base w x.flds) :
    Calls Tryz.prog 12 #[.pointer (some ⟨b, 0, none⟩), .agg x.arr] w fun e w' => e = .returned (.tuple #[]) ∧ RefL w' b (l ++ x.atoms) (odd || x.odd) ∧ Kp base b w w' := by
  have h6 : wtL (intA x.k) = 6 := rfl
  simp only [Record.atoms, wtL_append, h6] at hL
  by_cases e1 : x.k = 1
  · exact rrecord_w1 base b x _ rfl e1 l odd w hb (by simp only [Record.tail, e1, if_true] at hL; exact hL) R g
  by_cases e2 : x.k = 2
  · exact rrecord_w2 base b x _ rfl e2 l odd w hb (by simp [Record.tail, e2] at hL; exact hL) R g
  by_cases e3 : x.k = 3
  · exact rrecord_w3 base b x _ rfl e3 l odd w hb (by simp [Record.tail, e3] at hL; exact hL) R g
  by_cases e4 : x.k = 4
  · exact rrecord_w4 base b x _ rfl e4 l odd w hb (by simp [Record.tail, e4] at hL; exact hL) R g
  by_cases e5 : x.k < 1
  · exact rrecord_wa base b x _ rfl e5 l odd w hb (by omega) R g
  · exact rrecord_wb base b x _ rfl (by omega) l odd w hb (by omega) R g
end Go.Proofs.YtgppnghnjdkfdaaGreat

namespace Go.Proofs.YtgppnghnjdkfdaaGreat
open Go.RowKit
set_option linter.unusedVariables false
set_option linter.unusedSimpArgs false

theorem Motion.odd_may (x : Motion) (h : okL x.atoms = true) : x.odd = !x.may := by
  simp only [Motion.atoms, okL_append, Bool.and_eq_true] at h
  have hb := okL_list h.2
  have h1 := h.1.1
  unfold Motion.odd Motion.may
  rw [x.bl.odd_may h.1.2, any_all fun y hy => Cert.odd_may y (hb.2 y hy)]
  by_cases hf : 1 ≤ x.fr
  · have h2 : ¬ x.fr < 1 := by omega
    simp only [hf, h2, decide_true, decide_false]
    cases x.bl.may <;> simp
  · have h2 : x.fr < 1 := by omega
    simp only [hf, h2, decide_true, decide_false]
    simp
theorem Known.odd_may (x : Known) (h : okL x.atoms = true) : x.odd = !x.may := by
  simp only [Known.atoms, okL_append, Bool.and_eq_true] at h
  unfold Known.odd Known.may
  rw [x.ce.odd_may h.1, x.bl.odd_may h.2]
  simp
theorem Record.odd_may (x : Record) (h : okL x.atoms = true) : x.odd = !x.may := by
  simp only [Record.atoms, okL_append, Bool.and_eq_true] at h
  have ht := h.2
  by_cases e1 : x.k = 1
  · simp only [Record.tail, e1, if_true] at ht
    simp [Record.odd, Record.tailOdd, Record.may, e1, Vote.odd_may _ ht]
    cases x.vo.may <;> cases x.mo.no <;> cases x.kn.no <;> rfl
  by_cases e2 : x.k = 2
  · simp [Record.tail, e2] at ht
    simp [Record.odd, Record.tailOdd, Record.may, e2, Motion.odd_may _ ht]
    cases x.mo.may <;> cases x.vo.no <;> cases x.kn.no <;> rfl
  by_cases e3 : x.k = 3
  · simp [Record.tail, e3] at ht
    simp [Record.odd, Record.tailOdd, Record.may, e3, Known.odd_may _ ht]
    cases x.kn.may <;> cases x.vo.no <;> cases x.mo.no <;> rfl
  by_cases e4 : x.k = 4
  · simp [Record.tail, e4] at ht
    simp [Record.odd, Record.tailOdd, Record.may, e4, Known.odd_may _ ht]
    cases x.kn.may <;> cases x.vo.no <;> cases x.mo.no <;> rfl
  · have hh : (decide (x.k < 1) || decide (4 < x.k)) = true := by
      by_cases h5 : x.k < 1
      · simp [h5]
      · simp [show 4 < x.k by omega]
    unfold Record.odd Record.may
    rw [hh, if_neg e1, if_neg e2, if_neg (by omega)]
    rfl

set_option maxRecDepth 8000 in
set_option maxHeartbeats 3200000 in
theorem wputRecord_anyX (x : Record) (w : World) (hL : wtL x.atoms ≤ 1099400000000) (hm : wtL x.mo.atoms ≤ 1099400000000) (hk : wtL x.kn.atoms ≤ 1099400000000) (g : goods w.heap.size w x.flds) :
    Calls Tryz.prog 6 #[.agg x.arr] w fun e w' => e = .returned (.tuple #[.string ⟨(outB (encZL x.atoms) (!okL x.atoms) x.odd).toArray⟩, .int .i64 (outE (!okL x.atoms) x.odd)]) ∧ Below w.heap.size w w' := by
  have hCs : x.arr.toList = x.flds.map Fld.val := by
    simp [Record.arr, Vote.flds, Cert.flds, Header.flds, Block.flds, Motion.flds, Known.flds, Record.flds, Fld.val, Lst.fld]
  have hCn : x.arr.size = 38 := rfl
  obtain ⟨C, HC⟩ : ∃ C, Hid (C = x.arr) := ⟨_, rfl⟩
  rw [← HC.out] at hCs hCn ⊢
  have g : goods (w.alloc (.cells C 41)).heap.size (w.alloc (.cells C 41)) x.flds := (g.below ((Below.refl _ _).alloc (Nat.le_refl _) _)).mono (by simp)
  have hput := put_Record C hCn (if okL x.atoms = true then some ([] ++ encL x.atoms) else none) x.may (w.alloc (.cells C 41)) (fun b w5 hP kX hne hb5 => (precord_anyX (w.alloc (.cells C 41)).heap.size b (w.alloc (.cells C 41)).heap.size x [] w5 (by simp; omega) hP (kX.safe (by decide) hne) (CellsAt.of_blk kX hCs (g.below hb5))).mono fun e w' ⟨h1, h2⟩ => ⟨h1.wrote, h2⟩) (fun w5 h5 => by rw [HC.out]; exact mayRecord_anyX x w5 ((g.below h5).mono h5.size) hm hk)
  rw [(put_same x.fit (fun h => x.odd_may h)).1, (put_same x.fit (fun h => x.odd_may h)).2] at hput
  have kX := Blk.new w C 41
  clear g hCs
  go_enter Tryz.func6, Tryz.ntmps6
  go_upto_region 1 with fail
  refine wp_region_list ?_
  refine wpList_load_whole (by kernel_rfl) 41 _ rfl w.heap.size rfl C _ _ kX Tryz.underlying41 rfl (by rw [hCn]; kernel_rfl) ?_
  refine wpList_on (by kernel_rfl) (fun K hK => ?_)
  go_simp
  refine hput.mono ?_
  rintro e w1 ⟨rfl, b1⟩
  refine hK _ _ ?_
  clear hK K
  refine wpList_plain rfl (fun K hK => ?_)
  go_simp
  refine hK _ _ ?_
  clear hK K
  refine wpList_plain rfl (fun K hK => ?_)
  go_simp
  refine hK _ _ ?_
  clear hK K
  refine wpList_plain rfl (fun K hK => ?_)
  go_simp
  refine hK _ _ ?_
  clear hK K
  refine wpList_plain rfl (fun K hK => ?_)
  go_simp
  refine hK _ _ ?_
  clear hK K
  refine wpList_nil ?_
  simp only [Exit.then]
  go_wp2
  go_ret2
  exact ⟨rfl, ((Below.refl _ _).alloc (Nat.le_refl _) _).trans (b1.mono (by simp))⟩

set_option maxRecDepth 8000 in
set_option maxHeartbeats 3200000 in
theorem rputRecord_anyX (x : Record) (w : World) (hL : wtL x.atoms ≤ 1099400000000) (g : goods w.heap.size w x.flds) :
    Calls Tryz.prog 7 #[.agg x.arr] w fun e w' => e = .returned (.tuple #[.string ⟨(outB (encZL x.atoms) (!okL x.atoms) x.odd).toArray⟩, .int .i64 (outE (!okL x.atoms) x.odd)]) ∧ Below w.heap.size w w' := by
  have hCn : x.arr.size = 38 := rfl
  obtain ⟨C, HC⟩ : ∃ C, Hid (C = x.arr) := ⟨_, rfl⟩
  rw [← HC.out] at hCn ⊢
  have R0 : RefL ((w.alloc (.cells C 41)).alloc (.cells #[.string ⟨#[]⟩, .bool false, .bool false] 59)) (w.heap.size + 1) [] false := by
    have h := Blk.new (w.alloc (.cells C 41)) #[.string ⟨#[]⟩, .bool false, .bool false] 59
    rw [World.size_alloc] at h
    exact h
  have bA : Below w.heap.size w ((w.alloc (.cells C 41)).alloc (.cells #[.string ⟨#[]⟩, .bool false, .bool false] 59)) := ((Below.refl _ _).alloc (Nat.le_refl _) _).alloc (by simp) _
  have kX := (Blk.new w C 41).alloc (.cells #[.string ⟨#[]⟩, .bool false, .bool false] 59)
  have g1 := g.below bA
  have key := rrecord_anyX w.heap.size (w.heap.size + 1) x [] false _ (by omega) (by simp only [wtL]; omega) R0 g1
  rw [← HC.out] at key
  clear g
  go_enter Tryz.func7, Tryz.ntmps7
  go_upto_region 2 with fail
  refine wp_region_list ?_
  refine wpList_plain rfl (fun K hK => ?_)
  go_simp
  refine hK _ _ ?_
  clear hK K
  refine wpList_load_whole (by kernel_rfl) 41 _ rfl w.heap.size rfl C _ _ kX Tryz.underlying41 rfl (by rw [hCn]; kernel_rfl) ?_
  refine wpList_on (by kernel_rfl) (fun K hK => ?_)
  go_simp
  refine key.mono ?_
  rintro e w1 ⟨rfl, R1, k1⟩
  refine hK _ _ ?_
  clear hK K
  refine wpList_nil ?_
  simp only [Exit.then]
  have R2 : RefAt w1 (w.heap.size + 1) (encZL x.atoms) (!okL x.atoms) x.odd := by
    have h := R1
    unfold RefL at h
    simpa using h
  have b1 := bA.trans k1.below
  clear R0 R1 g1 key
  go_wp2_with fail
  refine (rout_any (w.heap.size + 1) _ _ _ _ R2).mono ?_
  rintro e w2 ⟨rfl, b2⟩
  go_wp2
  go_ret2
  exact ⟨rfl, b1.trans (b2.mono b1.size)⟩
end Go.Proofs.YtgppnghnjdkfdaaGreat

namespace Go.Proofs.YtgppnghnjdkfdaaGreat
open Go.ChangeShapes Go.WideShapes Go.ChangeAt Go.RowKit
set_option linter.unusedVariables false
set_option linter.unusedSimpArgs false

theorem i64_wf {a : Int} (h : (Lit.int .i64 a).wf = true) : -9223372036854775808 ≤ a ∧ a ≤ 9223372036854775807 := by
  simpa [Lit.wf, IntKind.min, IntKind.max, IntKind.signed, IntKind.bits] using h
theorem u64_wf {a : Int} (h : (Lit.int .u64 a).wf = true) : 0 ≤ a ∧ a ≤ 18446744073709551615 := by
  simpa [Lit.wf, IntKind.min, IntKind.max, IntKind.signed, IntKind.bits] using h
theorem addr_add (b off i : Nat) : (⟨b, off, none⟩ : Addr).add i = ⟨b, off + i, none⟩ := by unfold Addr.add; split <;> simp_all
theorem bulk_pos {H : Type} (d : DataW H) : 1 ≤ Rows.uptoBulk d := by
  cases d with
  | lit l => cases l <;> simp [Rows.uptoBulk]
  | nil => simp [Rows.uptoBulk]
  | ptr d => simp [Rows.uptoBulk]
  | slice elems spare => simp [Rows.uptoBulk]
  | agg parts => simp [Rows.uptoBulk]
  | iface t d => simp [Rows.uptoBulk]
  | map entries => simp [Rows.uptoBulk]
  | held h => simp [Rows.uptoBulk]
theorem goods_nil (base : Nat) (w : World) : goods base w [] := fun f hf => by simp at hf
theorem goods_cons {base : Nat} {w : World} {f : Fld} {fs : List Fld} (h : f.good base w) (g : goods base w fs) : goods base w (f :: fs) := fun x hx => by
  rcases List.mem_cons.1 hx with rfl | hx
  · exact h
  · exact g x hx
theorem listN {α : Type} {l : List α} {n : Nat} (h : l.length = n + 1) : ∃ a r, l = a :: r ∧ r.length = n := by
  match l, h with
  | a :: r, h => exact ⟨a, r, rfl, by simpa using h⟩
theorem list0 {α : Type} {l : List α} (h : l.length = 0) : l = [] := List.eq_nil_of_length_eq_zero h

/-- A reading of this type is a thing, whole, and no greater than what is read. -/
def Opened {H : Type} (enc : TypeId × Value → H) (W : World) (sp : Nat → Bool) {α : Type} (flds : α → List Fld) (atoms : α → List Atom) (T : TypeId) : Prop :=
  ∀ (fuel : Nat) (cs : List Value) (x : DataW H × List MemPlace), DataW.trod enc Tryz.prog W 0 sp true fuel T cs = some x →
    ∃ y : α, cs = (flds y).map Fld.val ∧ goods W.heap.size W (flds y) ∧ wtL (atoms y) ≤ 9 * Rows.uptoBulk x.1
theorem each_wt {H α : Type} (atoms : α → List Atom) (q : Nat → α) (D : Nat → DataW H) : ∀ (l : List Nat), (∀ i ∈ l, wtL (atoms (q i)) ≤ 9 * Rows.uptoBulk (D i)) → wtL (eachL atoms (l.map q)) ≤ 9 * Rows.uptoBulkAll (l.map D)
  | [], _ => by simp [eachL, wtL]
  | i :: r, h => by
    have h1 := h i (by simp)
    have h2 := each_wt atoms q D r fun j hj => h j (by simp [hj])
    simp only [List.map_cons, eachL, wtL_append, Rows.uptoBulkAll]
    omega
theorem open_lst {H : Type} {enc : TypeId × Value → H} {W : World} {sp : Nat → Bool} {α : Type} [Inhabited α] {flds : α → List Fld} {atoms : α → List Atom} {sz : Nat} (hz : ∀ x, (flds x).length = sz) (hpos : 0 < sz) {t e : TypeId} (ht : Tryz.prog.underlying t = some (.slice e)) (ce : Tryz.prog.cellsOf e = sz)
    (h1 : Opened enc W sp flds atoms e) (fuel : Nat) (cs : List Value) (x : DataW H × List MemPlace) (h : DataW.trod enc Tryz.prog W 0 sp true fuel t cs = some x) :
    ∃ l : Lst α, cs = [.slice l.la l.xs.length l.lc] ∧ (l.fld flds).good W.heap.size W ∧ 6 + wtL (eachL atoms l.xs) ≤ 9 * Rows.uptoBulk x.1 := by
  rcases Deep.open_slice ht h with ⟨rfl, rfl⟩ | ⟨a, len, cap, m, n, D, Pl, rfl, hb, hl, hm, hmm, rfl, hx⟩
  · exact ⟨⟨none, 0, []⟩, rfl, Lst.good (sz := sz) hz ⟨Nat.le_refl _, Nat.zero_le _, .inl rfl⟩, by simp [eachL, wtL, Rows.uptoBulk]⟩
  · have hlm : len ≤ m := by rw [hmm]; split <;> omega
    have each : ∀ i, i < len → ∃ y : α, (∀ j f, (flds y)[j]? = some f → W.cell? ((a.add (i * sz)).add j) = some f.val) ∧ goods W.heap.size W (flds y) ∧ wtL (atoms y) ≤ 9 * Rows.uptoBulk (D i) := by
      intro i hi
      obtain ⟨cs', h2, h3⟩ := hx i (by omega)
      rw [ce] at h2
      obtain ⟨_, hlen, hcell⟩ := World.cells?_some h2
      obtain ⟨y, e1, g, b⟩ := h1 _ _ _ h3
      refine ⟨y, fun j f hj => ?_, g, b⟩
      have hj' : j < sz := by rw [← hz y]; exact (List.getElem?_eq_some_iff.1 hj).1
      rw [hcell j hj', e1, List.getElem?_map, hj]; rfl
    obtain ⟨q, hq⟩ := Deep.choose_lt each
    refine ⟨⟨some a, cap, (List.range len).map q⟩, by simp, Lst.good (sz := sz) hz ⟨by simpa using hl, hm, ?_⟩, ?_⟩
    · by_cases h0 : len = 0
      · left; simp [h0]
      · right
        obtain ⟨b, off, spot⟩ := a
        have hp0 : 0 < (flds (q 0)).length := by rw [hz]; exact hpos
        have hy := (hq 0 (by omega)).1 0 _ (List.getElem?_eq_getElem hp0)
        have hspot : spot = none := by simpa [Addr.add] using World.cell?_spot hy
        subst hspot
        have hlt := World.block_lt_of_cell? W _ hy
        have hlt' : b < W.heap.size := by simpa [Addr.add] using hlt
        refine ⟨b, off, rfl, hlt', hlt', fun i x hx => ?_⟩
        have hi : i < len := by
          have := (List.getElem?_eq_some_iff.1 hx).1
          simpa using this
        have hxq : x = q i := by
          rw [List.getElem?_map, List.getElem?_range hi] at hx
          simpa using hx.symm
        subst hxq
        obtain ⟨h2, h3, _⟩ := hq i hi
        refine CellsAt.mk (fun j f hj => ?_) h3
        have := h2 j f hj
        rw [addr_add, addr_add] at this
        exact this
    · have := each_wt atoms q D (List.range len) fun i hi => (hq i (List.mem_range.1 hi)).2.2
      simp only [Rows.uptoBulk]
      omega
theorem str_eta (s : ByteArray) : s = ⟨(s.data.toList).toArray⟩ := by
  cases s; simp
theorem Tryz.cellsOf3 : Tryz.prog.cellsOf 3 = 1 := by kernel_rfl
theorem Tryz.cellsOfB : Tryz.prog.cellsOf 4 = 1 := by kernel_rfl
theorem Tryz.cellsOfD : Tryz.prog.cellsOf 23 = 1 := by kernel_rfl
theorem Tryz.cellsOfS : Tryz.prog.cellsOf 9 = 1 := by kernel_rfl
instance : Inhabited Vote := ⟨⟨0, 0, 0, false, 0, 0⟩⟩
instance : Inhabited Guilt := ⟨⟨default, default⟩⟩
instance : Inhabited Cert := ⟨⟨0, 0, 0, false, 0, ⟨none, 0, []⟩⟩⟩
instance : Inhabited Header := ⟨⟨0, 0, 0, 0, 0, 0, 0, 0, 0⟩⟩
instance : Inhabited Turn := ⟨⟨0, 0⟩⟩
instance : Inhabited Proof := ⟨⟨⟨none, 0, []⟩, false, [], []⟩⟩
instance : Inhabited Sight := ⟨⟨default, default, ⟨none, 0, []⟩⟩⟩
instance : Inhabited Tx := ⟨⟨0, 0, 0, 0, 0, 0, 0, [], ⟨none, 0, []⟩, ⟨none, 0, []⟩, ⟨none, 0, []⟩⟩⟩
instance : Inhabited Block := ⟨⟨default, ⟨none, 0, []⟩, ⟨none, 0, []⟩⟩⟩
instance : Inhabited Motion := ⟨⟨0, 0, default, ⟨none, 0, []⟩⟩⟩
instance : Inhabited Known := ⟨⟨default, default⟩⟩
theorem open_int {H : Type} (enc : TypeId × Value → H) (W : World) (sp : Nat → Bool) : Opened enc W sp intF intA 3 := by
  intro fuel cs x h
  obtain ⟨n, rfl, rfl, z⟩ := DataW.trod_int Tryz.underlying3 h
  exact ⟨n, rfl, goods_cons (i64_wf z) (goods_nil _ _), by simp [intA, wtL, Atom.wt, Rows.uptoBulk]⟩
theorem Tryz.cellsOfLInt : Tryz.prog.cellsOf 35 = 1 := by kernel_rfl
theorem Tryz.cellsOfLPair : Tryz.prog.cellsOf 62 = 1 := by kernel_rfl
theorem Tryz.cellsOfLTurn : Tryz.prog.cellsOf 65 = 1 := by kernel_rfl
theorem Tryz.cellsOfLSight : Tryz.prog.cellsOf 49 = 1 := by kernel_rfl
theorem Tryz.cellsOfLProof : Tryz.prog.cellsOf 50 = 1 := by kernel_rfl
theorem Tryz.cellsOfPair : Tryz.prog.cellsOf 188 = 2 := by kernel_rfl
theorem Tryz.cellsOfHeader : Tryz.prog.cellsOf 27 = 9 := by kernel_rfl
theorem Tryz.cellsOfCert : Tryz.prog.cellsOf 37 = 6 := by kernel_rfl
theorem Tryz.cellsOfTurn : Tryz.prog.cellsOf 178 = 2 := by kernel_rfl
theorem Tryz.cellsOfProof : Tryz.prog.cellsOf 67 = 4 := by kernel_rfl
theorem Tryz.cellsOfSight : Tryz.prog.cellsOf 64 = 16 := by kernel_rfl
theorem Tryz.cellsOfTx : Tryz.prog.cellsOf 52 = 11 := by kernel_rfl
theorem open_Pair {H : Type} (enc : TypeId × Value → H) (W : World) (sp : Nat → Bool) : Opened enc W sp pairF pairA 188 := by
  intro fuel cs x h
  obtain ⟨ys, m, _, rfl, hn, hlen, hfs⟩ := DataW.trod_struct Tryz.underlying188 h
  rw [Tryz.cellsOfPair] at hn
  obtain ⟨x0, r0, rfl, hn0⟩ := listN hn
  obtain ⟨x1, r1, rfl, hn1⟩ := listN hn0
  obtain rfl := list0 hn1
  have hlen : ys.length = 2 := by simpa using hlen
  obtain ⟨y0, s0, rfl, hk0⟩ := listN hlen
  obtain ⟨y1, s1, rfl, hk1⟩ := listN hk0
  obtain rfl := list0 hk1
  have g0 := hfs 0 _ rfl
  simp [Tryz.cellsOf3] at g0
  obtain ⟨n0, e0, hy0, z0⟩ := DataW.trod_int Tryz.underlying3 g0
  have g1 := hfs 1 _ rfl
  simp [Tryz.cellsOf3] at g1
  obtain ⟨n1, e1, hy1, z1⟩ := DataW.trod_int Tryz.underlying3 g1
  simp only [List.cons.injEq, and_true] at e0
  subst e0
  simp only [List.cons.injEq, and_true] at e1
  subst e1
  subst hy0
  subst hy1
  refine ⟨(n0, n1), ?_, ?_, ?_⟩
  · simp [Vote.flds, Guilt.flds, Cert.flds, Header.flds, Turn.flds, Proof.flds, Sight.flds, Tx.flds, Block.flds, Motion.flds, Known.flds, Message.flds, Record.flds, Fld.val, Lst.fld, pairF]
  · exact goods_cons (i64_wf z0) (goods_cons (i64_wf z1) (goods_nil _ _))
  · have p0 := True.intro
    simp only [ wtL_append, nums, digs, intA, pairA, flagL, digL, textL, listL, benchL, List.map, wtL, Atom.wt, flagB, be_len, List.length_cons, List.length_nil, Rows.uptoBulkAll, Rows.uptoBulk] at *
    omega
theorem open_Header {H : Type} (enc : TypeId × Value → H) (W : World) (sp : Nat → Bool) : Opened enc W sp Header.flds Header.atoms 27 := by
  intro fuel cs x h
  obtain ⟨ys, m, _, rfl, hn, hlen, hfs⟩ := DataW.trod_struct Tryz.underlying27 h
  rw [Tryz.cellsOfHeader] at hn
  obtain ⟨x0, r0, rfl, hn0⟩ := listN hn
  obtain ⟨x1, r1, rfl, hn1⟩ := listN hn0
  obtain ⟨x2, r2, rfl, hn2⟩ := listN hn1
  obtain ⟨x3, r3, rfl, hn3⟩ := listN hn2
  obtain ⟨x4, r4, rfl, hn4⟩ := listN hn3
  obtain ⟨x5, r5, rfl, hn5⟩ := listN hn4
  obtain ⟨x6, r6, rfl, hn6⟩ := listN hn5
  obtain ⟨x7, r7, rfl, hn7⟩ := listN hn6
  obtain ⟨x8, r8, rfl, hn8⟩ := listN hn7
  obtain rfl := list0 hn8
  have hlen : ys.length = 9 := by simpa using hlen
  obtain ⟨y0, s0, rfl, hk0⟩ := listN hlen
  obtain ⟨y1, s1, rfl, hk1⟩ := listN hk0
  obtain ⟨y2, s2, rfl, hk2⟩ := listN hk1
  obtain ⟨y3, s3, rfl, hk3⟩ := listN hk2
  obtain ⟨y4, s4, rfl, hk4⟩ := listN hk3
  obtain ⟨y5, s5, rfl, hk5⟩ := listN hk4
  obtain ⟨y6, s6, rfl, hk6⟩ := listN hk5
  obtain ⟨y7, s7, rfl, hk7⟩ := listN hk6
  obtain ⟨y8, s8, rfl, hk8⟩ := listN hk7
  obtain rfl := list0 hk8
  have g0 := hfs 0 _ rfl
  simp [Tryz.cellsOf3] at g0
  obtain ⟨n0, e0, hy0, z0⟩ := DataW.trod_int Tryz.underlying3 g0
  have g1 := hfs 1 _ rfl
  simp [Tryz.cellsOf3] at g1
  obtain ⟨n1, e1, hy1, z1⟩ := DataW.trod_int Tryz.underlying3 g1
  have g2 := hfs 2 _ rfl
  simp [Tryz.cellsOfD] at g2
  obtain ⟨n2, e2, hy2, z2⟩ := DataW.trod_int Tryz.underlying23 g2
  have g3 := hfs 3 _ rfl
  simp [Tryz.cellsOfD] at g3
  obtain ⟨n3, e3, hy3, z3⟩ := DataW.trod_int Tryz.underlying23 g3
  have g4 := hfs 4 _ rfl
  simp [Tryz.cellsOfD] at g4
  obtain ⟨n4, e4, hy4, z4⟩ := DataW.trod_int Tryz.underlying23 g4
  have g5 := hfs 5 _ rfl
  simp [Tryz.cellsOfD] at g5
  obtain ⟨n5, e5, hy5, z5⟩ := DataW.trod_int Tryz.underlying23 g5
  have g6 := hfs 6 _ rfl
  simp [Tryz.cellsOfD] at g6
  obtain ⟨n6, e6, hy6, z6⟩ := DataW.trod_int Tryz.underlying23 g6
  have g7 := hfs 7 _ rfl
  simp [Tryz.cellsOfD] at g7
  obtain ⟨n7, e7, hy7, z7⟩ := DataW.trod_int Tryz.underlying23 g7
  have g8 := hfs 8 _ rfl
  simp [Tryz.cellsOf3] at g8
  obtain ⟨n8, e8, hy8, z8⟩ := DataW.trod_int Tryz.underlying3 g8
  simp only [List.cons.injEq, and_true] at e0
  subst e0
  simp only [List.cons.injEq, and_true] at e1
  subst e1
  simp only [List.cons.injEq, and_true] at e2
  subst e2
  simp only [List.cons.injEq, and_true] at e3
  subst e3
  simp only [List.cons.injEq, and_true] at e4
  subst e4
  simp only [List.cons.injEq, and_true] at e5
  subst e5
  simp only [List.cons.injEq, and_true] at e6
  subst e6
  simp only [List.cons.injEq, and_true] at e7
  subst e7
  simp only [List.cons.injEq, and_true] at e8
  subst e8
  subst hy0
  subst hy1
  subst hy2
  subst hy3
  subst hy4
  subst hy5
  subst hy6
  subst hy7
  subst hy8
  refine ⟨⟨n0, n1, n2, n3, n4, n5, n6, n7, n8⟩, ?_, ?_, ?_⟩
  · simp [Vote.flds, Guilt.flds, Cert.flds, Header.flds, Turn.flds, Proof.flds, Sight.flds, Tx.flds, Block.flds, Motion.flds, Known.flds, Message.flds, Record.flds, Fld.val, Lst.fld, pairF]
  · exact goods_cons (i64_wf z0) (goods_cons (i64_wf z1) (goods_cons (u64_wf z2) (goods_cons (u64_wf z3) (goods_cons (u64_wf z4) (goods_cons (u64_wf z5) (goods_cons (u64_wf z6) (goods_cons (u64_wf z7) (goods_cons (i64_wf z8) (goods_nil _ _)))))))))
  · have p0 := True.intro
    simp only [Header.atoms, wtL_append, nums, digs, intA, pairA, flagL, digL, textL, listL, benchL, List.map, wtL, Atom.wt, flagB, be_len, List.length_cons, List.length_nil, Rows.uptoBulkAll, Rows.uptoBulk] at *
    omega
theorem open_Cert {H : Type} (enc : TypeId × Value → H) (W : World) (sp : Nat → Bool) : Opened enc W sp Cert.flds Cert.atoms 37 := by
  intro fuel cs x h
  obtain ⟨ys, m, _, rfl, hn, hlen, hfs⟩ := DataW.trod_struct Tryz.underlying37 h
  rw [Tryz.cellsOfCert] at hn
  obtain ⟨x0, r0, rfl, hn0⟩ := listN hn
  obtain ⟨x1, r1, rfl, hn1⟩ := listN hn0
  obtain ⟨x2, r2, rfl, hn2⟩ := listN hn1
  obtain ⟨x3, r3, rfl, hn3⟩ := listN hn2
  obtain ⟨x4, r4, rfl, hn4⟩ := listN hn3
  obtain ⟨x5, r5, rfl, hn5⟩ := listN hn4
  obtain rfl := list0 hn5
  have hlen : ys.length = 6 := by simpa using hlen
  obtain ⟨y0, s0, rfl, hk0⟩ := listN hlen
  obtain ⟨y1, s1, rfl, hk1⟩ := listN hk0
  obtain ⟨y2, s2, rfl, hk2⟩ := listN hk1
  obtain ⟨y3, s3, rfl, hk3⟩ := listN hk2
  obtain ⟨y4, s4, rfl, hk4⟩ := listN hk3
  obtain ⟨y5, s5, rfl, hk5⟩ := listN hk4
  obtain rfl := list0 hk5
  have g0 := hfs 0 _ rfl
  simp [Tryz.cellsOf3] at g0
  obtain ⟨n0, e0, hy0, z0⟩ := DataW.trod_int Tryz.underlying3 g0
  have g1 := hfs 1 _ rfl
  simp [Tryz.cellsOf3] at g1
  obtain ⟨n1, e1, hy1, z1⟩ := DataW.trod_int Tryz.underlying3 g1
  have g2 := hfs 2 _ rfl
  simp [Tryz.cellsOf3] at g2
  obtain ⟨n2, e2, hy2, z2⟩ := DataW.trod_int Tryz.underlying3 g2
  have g3 := hfs 3 _ rfl
  simp [Tryz.cellsOfB] at g3
  obtain ⟨n3, e3, hy3⟩ := DataW.trod_bool Tryz.underlying4 g3
  have g4 := hfs 4 _ rfl
  simp [Tryz.cellsOfD] at g4
  obtain ⟨n4, e4, hy4, z4⟩ := DataW.trod_int Tryz.underlying23 g4
  have g5 := hfs 5 _ rfl
  simp [Tryz.cellsOfLInt] at g5
  obtain ⟨n5, e5, k5, b5⟩ := open_lst (atoms := intA) intF_len (by omega) Tryz.underlying35 Tryz.cellsOf3 (open_int enc W sp) _ _ _ g5
  simp only [List.cons.injEq, and_true] at e0
  subst e0
  simp only [List.cons.injEq, and_true] at e1
  subst e1
  simp only [List.cons.injEq, and_true] at e2
  subst e2
  simp only [List.cons.injEq, and_true] at e3
  subst e3
  simp only [List.cons.injEq, and_true] at e4
  subst e4
  simp only [List.cons.injEq, and_true] at e5
  subst e5
  subst hy0
  subst hy1
  subst hy2
  subst hy3
  subst hy4
  refine ⟨⟨n0, n1, n2, n3, n4, n5⟩, ?_, ?_, ?_⟩
  · simp [Vote.flds, Guilt.flds, Cert.flds, Header.flds, Turn.flds, Proof.flds, Sight.flds, Tx.flds, Block.flds, Motion.flds, Known.flds, Message.flds, Record.flds, Fld.val, Lst.fld, pairF]
  · exact goods_cons (i64_wf z0) (goods_cons (i64_wf z1) (goods_cons (i64_wf z2) (goods_cons (trivial) (goods_cons (u64_wf z4) (goods_cons (k5) (goods_nil _ _))))))
  · have p5 := bulk_pos y5.1
    simp only [Cert.atoms, wtL_append, nums, digs, intA, pairA, flagL, digL, textL, listL, benchL, List.map, wtL, Atom.wt, flagB, be_len, List.length_cons, List.length_nil, Rows.uptoBulkAll, Rows.uptoBulk] at *
    omega
theorem open_Turn {H : Type} (enc : TypeId × Value → H) (W : World) (sp : Nat → Bool) : Opened enc W sp Turn.flds Turn.atoms 178 := by
  intro fuel cs x h
  obtain ⟨ys, m, _, rfl, hn, hlen, hfs⟩ := DataW.trod_struct Tryz.underlying178 h
  rw [Tryz.cellsOfTurn] at hn
  obtain ⟨x0, r0, rfl, hn0⟩ := listN hn
  obtain ⟨x1, r1, rfl, hn1⟩ := listN hn0
  obtain rfl := list0 hn1
  have hlen : ys.length = 2 := by simpa using hlen
  obtain ⟨y0, s0, rfl, hk0⟩ := listN hlen
  obtain ⟨y1, s1, rfl, hk1⟩ := listN hk0
  obtain rfl := list0 hk1
  have g0 := hfs 0 _ rfl
  simp [Tryz.cellsOf3] at g0
  obtain ⟨n0, e0, hy0, z0⟩ := DataW.trod_int Tryz.underlying3 g0
  have g1 := hfs 1 _ rfl
  simp [Tryz.cellsOfD] at g1
  obtain ⟨n1, e1, hy1, z1⟩ := DataW.trod_int Tryz.underlying23 g1
  simp only [List.cons.injEq, and_true] at e0
  subst e0
  simp only [List.cons.injEq, and_true] at e1
  subst e1
  subst hy0
  subst hy1
  refine ⟨⟨n0, n1⟩, ?_, ?_, ?_⟩
  · simp [Vote.flds, Guilt.flds, Cert.flds, Header.flds, Turn.flds, Proof.flds, Sight.flds, Tx.flds, Block.flds, Motion.flds, Known.flds, Message.flds, Record.flds, Fld.val, Lst.fld, pairF]
  · exact goods_cons (i64_wf z0) (goods_cons (u64_wf z1) (goods_nil _ _))
  · have p0 := True.intro
    simp only [Turn.atoms, wtL_append, nums, digs, intA, pairA, flagL, digL, textL, listL, benchL, List.map, wtL, Atom.wt, flagB, be_len, List.length_cons, List.length_nil, Rows.uptoBulkAll, Rows.uptoBulk] at *
    omega
theorem open_Proof {H : Type} (enc : TypeId × Value → H) (W : World) (sp : Nat → Bool) : Opened enc W sp Proof.flds Proof.atoms 67 := by
  intro fuel cs x h
  obtain ⟨ys, m, _, rfl, hn, hlen, hfs⟩ := DataW.trod_struct Tryz.underlying67 h
  rw [Tryz.cellsOfProof] at hn
  obtain ⟨x0, r0, rfl, hn0⟩ := listN hn
  obtain ⟨x1, r1, rfl, hn1⟩ := listN hn0
  obtain ⟨x2, r2, rfl, hn2⟩ := listN hn1
  obtain ⟨x3, r3, rfl, hn3⟩ := listN hn2
  obtain rfl := list0 hn3
  have hlen : ys.length = 4 := by simpa using hlen
  obtain ⟨y0, s0, rfl, hk0⟩ := listN hlen
  obtain ⟨y1, s1, rfl, hk1⟩ := listN hk0
  obtain ⟨y2, s2, rfl, hk2⟩ := listN hk1
  obtain ⟨y3, s3, rfl, hk3⟩ := listN hk2
  obtain rfl := list0 hk3
  have g0 := hfs 0 _ rfl
  simp [Tryz.cellsOfLTurn] at g0
  obtain ⟨n0, e0, k0, b0⟩ := open_lst (atoms := Turn.atoms) Turn.len (by omega) Tryz.underlying65 Tryz.cellsOfTurn (open_Turn enc W sp) _ _ _ g0
  have g1 := hfs 1 _ rfl
  simp [Tryz.cellsOfB] at g1
  obtain ⟨n1, e1, hy1⟩ := DataW.trod_bool Tryz.underlying4 g1
  have g2 := hfs 2 _ rfl
  simp [Tryz.cellsOfS] at g2
  obtain ⟨n2, e2, hy2, z2⟩ := DataW.trod_string Tryz.underlying9 g2
  have g3 := hfs 3 _ rfl
  simp [Tryz.cellsOfS] at g3
  obtain ⟨n3, e3, hy3, z3⟩ := DataW.trod_string Tryz.underlying9 g3
  simp only [List.cons.injEq, and_true] at e0
  subst e0
  simp only [List.cons.injEq, and_true] at e1
  subst e1
  simp only [List.cons.injEq, and_true] at e2
  subst e2
  simp only [List.cons.injEq, and_true] at e3
  subst e3
  subst hy1
  subst hy2
  subst hy3
  refine ⟨⟨n0, n1, n2.data.toList, n3.data.toList⟩, ?_, ?_, ?_⟩
  · simp [Vote.flds, Guilt.flds, Cert.flds, Header.flds, Turn.flds, Proof.flds, Sight.flds, Tx.flds, Block.flds, Motion.flds, Known.flds, Message.flds, Record.flds, Fld.val, Lst.fld, pairF, ← str_eta]
  · exact goods_cons (k0) (goods_cons (trivial) (goods_cons (trivial) (goods_cons (trivial) (goods_nil _ _))))
  · have p0 := bulk_pos y0.1
    simp only [Proof.atoms, wtL_append, nums, digs, intA, pairA, flagL, digL, textL, listL, benchL, List.map, wtL, Atom.wt, flagB, be_len, List.length_cons, List.length_nil, Rows.uptoBulkAll, Rows.uptoBulk] at *
    omega
theorem open_Sight {H : Type} (enc : TypeId × Value → H) (W : World) (sp : Nat → Bool) : Opened enc W sp Sight.flds Sight.atoms 64 := by
  intro fuel cs x h
  obtain ⟨ys, m, _, rfl, hn, hlen, hfs⟩ := DataW.trod_struct Tryz.underlying64 h
  rw [Tryz.cellsOfSight] at hn
  obtain ⟨x0, r0, rfl, hn0⟩ := listN hn
  obtain ⟨x1, r1, rfl, hn1⟩ := listN hn0
  obtain ⟨x2, r2, rfl, hn2⟩ := listN hn1
  obtain ⟨x3, r3, rfl, hn3⟩ := listN hn2
  obtain ⟨x4, r4, rfl, hn4⟩ := listN hn3
  obtain ⟨x5, r5, rfl, hn5⟩ := listN hn4
  obtain ⟨x6, r6, rfl, hn6⟩ := listN hn5
  obtain ⟨x7, r7, rfl, hn7⟩ := listN hn6
  obtain ⟨x8, r8, rfl, hn8⟩ := listN hn7
  obtain ⟨x9, r9, rfl, hn9⟩ := listN hn8
  obtain ⟨x10, r10, rfl, hn10⟩ := listN hn9
  obtain ⟨x11, r11, rfl, hn11⟩ := listN hn10
  obtain ⟨x12, r12, rfl, hn12⟩ := listN hn11
  obtain ⟨x13, r13, rfl, hn13⟩ := listN hn12
  obtain ⟨x14, r14, rfl, hn14⟩ := listN hn13
  obtain ⟨x15, r15, rfl, hn15⟩ := listN hn14
  obtain rfl := list0 hn15
  have hlen : ys.length = 3 := by simpa using hlen
  obtain ⟨y0, s0, rfl, hk0⟩ := listN hlen
  obtain ⟨y1, s1, rfl, hk1⟩ := listN hk0
  obtain ⟨y2, s2, rfl, hk2⟩ := listN hk1
  obtain rfl := list0 hk2
  have g0 := hfs 0 _ rfl
  simp [Tryz.cellsOfHeader] at g0
  obtain ⟨n0, e0, k0, b0⟩ := open_Header enc W sp _ _ _ g0
  have g1 := hfs 1 _ rfl
  simp [Tryz.cellsOfCert] at g1
  obtain ⟨n1, e1, k1, b1⟩ := open_Cert enc W sp _ _ _ g1
  have g2 := hfs 2 _ rfl
  simp [Tryz.cellsOfLPair] at g2
  obtain ⟨n2, e2, k2, b2⟩ := open_lst (atoms := pairA) pairF_len (by omega) Tryz.underlying62 Tryz.cellsOfPair (open_Pair enc W sp) _ _ _ g2
  simp only [Vote.flds, Guilt.flds, Cert.flds, Header.flds, Turn.flds, Proof.flds, Sight.flds, Tx.flds, Block.flds, Motion.flds, Known.flds, Message.flds, Record.flds, Fld.val, Lst.fld, List.map_cons, List.map_nil, List.map_append, List.cons_append, List.nil_append, List.length_map, List.cons.injEq, and_true] at e0
  obtain ⟨rfl, rfl, rfl, rfl, rfl, rfl, rfl, rfl, rfl⟩ := e0
  simp only [Vote.flds, Guilt.flds, Cert.flds, Header.flds, Turn.flds, Proof.flds, Sight.flds, Tx.flds, Block.flds, Motion.flds, Known.flds, Message.flds, Record.flds, Fld.val, Lst.fld, List.map_cons, List.map_nil, List.map_append, List.cons_append, List.nil_append, List.length_map, List.cons.injEq, and_true] at e1
  obtain ⟨rfl, rfl, rfl, rfl, rfl, rfl⟩ := e1
  simp only [List.cons.injEq, and_true] at e2
  subst e2
  refine ⟨⟨n0, n1, n2⟩, ?_, ?_, ?_⟩
  · simp [Vote.flds, Guilt.flds, Cert.flds, Header.flds, Turn.flds, Proof.flds, Sight.flds, Tx.flds, Block.flds, Motion.flds, Known.flds, Message.flds, Record.flds, Fld.val, Lst.fld, pairF]
  · exact goods.mk k0 (goods.mk k1 (goods_cons (k2) (goods_nil _ _)))
  · have p0 := bulk_pos y0.1
    have p1 := bulk_pos y1.1
    have p2 := bulk_pos y2.1
    simp only [Sight.atoms, wtL_append, nums, digs, intA, pairA, flagL, digL, textL, listL, benchL, List.map, wtL, Atom.wt, flagB, be_len, List.length_cons, List.length_nil, Rows.uptoBulkAll, Rows.uptoBulk] at *
    omega
theorem open_Tx {H : Type} (enc : TypeId × Value → H) (W : World) (sp : Nat → Bool) : Opened enc W sp Tx.flds Tx.atoms 52 := by
  intro fuel cs x h
  obtain ⟨ys, m, _, rfl, hn, hlen, hfs⟩ := DataW.trod_struct Tryz.underlying52 h
  rw [Tryz.cellsOfTx] at hn
  obtain ⟨x0, r0, rfl, hn0⟩ := listN hn
  obtain ⟨x1, r1, rfl, hn1⟩ := listN hn0
  obtain ⟨x2, r2, rfl, hn2⟩ := listN hn1
  obtain ⟨x3, r3, rfl, hn3⟩ := listN hn2
  obtain ⟨x4, r4, rfl, hn4⟩ := listN hn3
  obtain ⟨x5, r5, rfl, hn5⟩ := listN hn4
  obtain ⟨x6, r6, rfl, hn6⟩ := listN hn5
  obtain ⟨x7, r7, rfl, hn7⟩ := listN hn6
  obtain ⟨x8, r8, rfl, hn8⟩ := listN hn7
  obtain ⟨x9, r9, rfl, hn9⟩ := listN hn8
  obtain ⟨x10, r10, rfl, hn10⟩ := listN hn9
  obtain rfl := list0 hn10
  have hlen : ys.length = 11 := by simpa using hlen
  obtain ⟨y0, s0, rfl, hk0⟩ := listN hlen
  obtain ⟨y1, s1, rfl, hk1⟩ := listN hk0
  obtain ⟨y2, s2, rfl, hk2⟩ := listN hk1
  obtain ⟨y3, s3, rfl, hk3⟩ := listN hk2
  obtain ⟨y4, s4, rfl, hk4⟩ := listN hk3
  obtain ⟨y5, s5, rfl, hk5⟩ := listN hk4
  obtain ⟨y6, s6, rfl, hk6⟩ := listN hk5
  obtain ⟨y7, s7, rfl, hk7⟩ := listN hk6
  obtain ⟨y8, s8, rfl, hk8⟩ := listN hk7
  obtain ⟨y9, s9, rfl, hk9⟩ := listN hk8
  obtain ⟨y10, s10, rfl, hk10⟩ := listN hk9
  obtain rfl := list0 hk10
  have g0 := hfs 0 _ rfl
  simp [Tryz.cellsOf3] at g0
  obtain ⟨n0, e0, hy0, z0⟩ := DataW.trod_int Tryz.underlying3 g0
  have g1 := hfs 1 _ rfl
  simp [Tryz.cellsOf3] at g1
  obtain ⟨n1, e1, hy1, z1⟩ := DataW.trod_int Tryz.underlying3 g1
  have g2 := hfs 2 _ rfl
  simp [Tryz.cellsOf3] at g2
  obtain ⟨n2, e2, hy2, z2⟩ := DataW.trod_int Tryz.underlying3 g2
  have g3 := hfs 3 _ rfl
  simp [Tryz.cellsOf3] at g3
  obtain ⟨n3, e3, hy3, z3⟩ := DataW.trod_int Tryz.underlying3 g3
  have g4 := hfs 4 _ rfl
  simp [Tryz.cellsOf3] at g4
  obtain ⟨n4, e4, hy4, z4⟩ := DataW.trod_int Tryz.underlying3 g4
  have g5 := hfs 5 _ rfl
  simp [Tryz.cellsOf3] at g5
  obtain ⟨n5, e5, hy5, z5⟩ := DataW.trod_int Tryz.underlying3 g5
  have g6 := hfs 6 _ rfl
  simp [Tryz.cellsOf3] at g6
  obtain ⟨n6, e6, hy6, z6⟩ := DataW.trod_int Tryz.underlying3 g6
  have g7 := hfs 7 _ rfl
  simp [Tryz.cellsOfS] at g7
  obtain ⟨n7, e7, hy7, z7⟩ := DataW.trod_string Tryz.underlying9 g7
  have g8 := hfs 8 _ rfl
  simp [Tryz.cellsOfLInt] at g8
  obtain ⟨n8, e8, k8, b8⟩ := open_lst (atoms := intA) intF_len (by omega) Tryz.underlying35 Tryz.cellsOf3 (open_int enc W sp) _ _ _ g8
  have g9 := hfs 9 _ rfl
  simp [Tryz.cellsOfLSight] at g9
  obtain ⟨n9, e9, k9, b9⟩ := open_lst (atoms := Sight.atoms) Sight.len (by omega) Tryz.underlying49 Tryz.cellsOfSight (open_Sight enc W sp) _ _ _ g9
  have g10 := hfs 10 _ rfl
  simp [Tryz.cellsOfLProof] at g10
  obtain ⟨n10, e10, k10, b10⟩ := open_lst (atoms := Proof.atoms) Proof.len (by omega) Tryz.underlying50 Tryz.cellsOfProof (open_Proof enc W sp) _ _ _ g10
  simp only [List.cons.injEq, and_true] at e0
  subst e0
  simp only [List.cons.injEq, and_true] at e1
  subst e1
  simp only [List.cons.injEq, and_true] at e2
  subst e2
  simp only [List.cons.injEq, and_true] at e3
  subst e3
  simp only [List.cons.injEq, and_true] at e4
  subst e4
  simp only [List.cons.injEq, and_true] at e5
  subst e5
  simp only [List.cons.injEq, and_true] at e6
  subst e6
  simp only [List.cons.injEq, and_true] at e7
  subst e7
  simp only [List.cons.injEq, and_true] at e8
  subst e8
  simp only [List.cons.injEq, and_true] at e9
  subst e9
  simp only [List.cons.injEq, and_true] at e10
  subst e10
  subst hy0
  subst hy1
  subst hy2
  subst hy3
  subst hy4
  subst hy5
  subst hy6
  subst hy7
  refine ⟨⟨n0, n1, n2, n3, n4, n5, n6, n7.data.toList, n8, n9, n10⟩, ?_, ?_, ?_⟩
  · simp [Vote.flds, Guilt.flds, Cert.flds, Header.flds, Turn.flds, Proof.flds, Sight.flds, Tx.flds, Block.flds, Motion.flds, Known.flds, Message.flds, Record.flds, Fld.val, Lst.fld, pairF, ← str_eta]
  · exact goods_cons (i64_wf z0) (goods_cons (i64_wf z1) (goods_cons (i64_wf z2) (goods_cons (i64_wf z3) (goods_cons (i64_wf z4) (goods_cons (i64_wf z5) (goods_cons (i64_wf z6) (goods_cons (trivial) (goods_cons (k8) (goods_cons (k9) (goods_cons (k10) (goods_nil _ _)))))))))))
  · have p8 := bulk_pos y8.1
    have p9 := bulk_pos y9.1
    have p10 := bulk_pos y10.1
    simp only [Tx.atoms, wtL_append, nums, digs, intA, pairA, flagL, digL, textL, listL, benchL, List.map, wtL, Atom.wt, flagB, be_len, List.length_cons, List.length_nil, Rows.uptoBulkAll, Rows.uptoBulk] at *
    omega
end Go.Proofs.YtgppnghnjdkfdaaGreat

namespace Go.Proofs.YtgppnghnjdkfdaaGreat
open Go.ChangeShapes Go.WideShapes Go.ChangeAt Go.RowKit
set_option linter.unusedVariables false
set_option linter.unusedSimpArgs false

theorem Tryz.cellsOfLTx : Tryz.prog.cellsOf 28 = 1 := by kernel_rfl
theorem Tryz.cellsOfLGuilt : Tryz.prog.cellsOf 29 = 1 := by kernel_rfl
theorem Tryz.cellsOfVote : Tryz.prog.cellsOf 25 = 6 := by kernel_rfl
theorem Tryz.cellsOfGuilt : Tryz.prog.cellsOf 125 = 12 := by kernel_rfl
theorem Tryz.cellsOfBlock : Tryz.prog.cellsOf 31 = 11 := by kernel_rfl
theorem open_Vote {H : Type} (enc : TypeId × Value → H) (W : World) (sp : Nat → Bool) : Opened enc W sp Vote.flds Vote.atoms 25 := by
  intro fuel cs x h
  obtain ⟨ys, m, _, rfl, hn, hlen, hfs⟩ := DataW.trod_struct Tryz.underlying25 h
  rw [Tryz.cellsOfVote] at hn
  obtain ⟨x0, r0, rfl, hn0⟩ := listN hn
  obtain ⟨x1, r1, rfl, hn1⟩ := listN hn0
  obtain ⟨x2, r2, rfl, hn2⟩ := listN hn1
  obtain ⟨x3, r3, rfl, hn3⟩ := listN hn2
  obtain ⟨x4, r4, rfl, hn4⟩ := listN hn3
  obtain ⟨x5, r5, rfl, hn5⟩ := listN hn4
  obtain rfl := list0 hn5
  have hlen : ys.length = 6 := by simpa using hlen
  obtain ⟨y0, s0, rfl, hk0⟩ := listN hlen
  obtain ⟨y1, s1, rfl, hk1⟩ := listN hk0
  obtain ⟨y2, s2, rfl, hk2⟩ := listN hk1
  obtain ⟨y3, s3, rfl, hk3⟩ := listN hk2
  obtain ⟨y4, s4, rfl, hk4⟩ := listN hk3
  obtain ⟨y5, s5, rfl, hk5⟩ := listN hk4
  obtain rfl := list0 hk5
  have g0 := hfs 0 _ rfl
  simp [Tryz.cellsOf3] at g0
  obtain ⟨n0, e0, hy0, z0⟩ := DataW.trod_int Tryz.underlying3 g0
  have g1 := hfs 1 _ rfl
  simp [Tryz.cellsOf3] at g1
  obtain ⟨n1, e1, hy1, z1⟩ := DataW.trod_int Tryz.underlying3 g1
  have g2 := hfs 2 _ rfl
  simp [Tryz.cellsOf3] at g2
  obtain ⟨n2, e2, hy2, z2⟩ := DataW.trod_int Tryz.underlying3 g2
  have g3 := hfs 3 _ rfl
  simp [Tryz.cellsOfB] at g3
  obtain ⟨n3, e3, hy3⟩ := DataW.trod_bool Tryz.underlying4 g3
  have g4 := hfs 4 _ rfl
  simp [Tryz.cellsOfD] at g4
  obtain ⟨n4, e4, hy4, z4⟩ := DataW.trod_int Tryz.underlying23 g4
  have g5 := hfs 5 _ rfl
  simp [Tryz.cellsOf3] at g5
  obtain ⟨n5, e5, hy5, z5⟩ := DataW.trod_int Tryz.underlying3 g5
  simp only [List.cons.injEq, and_true] at e0
  subst e0
  simp only [List.cons.injEq, and_true] at e1
  subst e1
  simp only [List.cons.injEq, and_true] at e2
  subst e2
  simp only [List.cons.injEq, and_true] at e3
  subst e3
  simp only [List.cons.injEq, and_true] at e4
  subst e4
  simp only [List.cons.injEq, and_true] at e5
  subst e5
  subst hy0
  subst hy1
  subst hy2
  subst hy3
  subst hy4
  subst hy5
  refine ⟨⟨n0, n1, n2, n3, n4, n5⟩, ?_, ?_, ?_⟩
  · simp [Vote.flds, Guilt.flds, Cert.flds, Header.flds, Turn.flds, Proof.flds, Sight.flds, Tx.flds, Block.flds, Motion.flds, Known.flds, Message.flds, Record.flds, Fld.val, Lst.fld, pairF]
  · exact goods_cons (i64_wf z0) (goods_cons (i64_wf z1) (goods_cons (i64_wf z2) (goods_cons (trivial) (goods_cons (u64_wf z4) (goods_cons (i64_wf z5) (goods_nil _ _))))))
  · have p0 := True.intro
    simp only [Vote.atoms, wtL_append, nums, digs, intA, pairA, flagL, digL, textL, listL, benchL, List.map, wtL, Atom.wt, flagB, be_len, List.length_cons, List.length_nil, Rows.uptoBulkAll, Rows.uptoBulk] at *
    omega
theorem open_Guilt {H : Type} (enc : TypeId × Value → H) (W : World) (sp : Nat → Bool) : Opened enc W sp Guilt.flds Guilt.atoms 125 := by
  intro fuel cs x h
  obtain ⟨ys, m, _, rfl, hn, hlen, hfs⟩ := DataW.trod_struct Tryz.underlying125 h
  rw [Tryz.cellsOfGuilt] at hn
  obtain ⟨x0, r0, rfl, hn0⟩ := listN hn
  obtain ⟨x1, r1, rfl, hn1⟩ := listN hn0
  obtain ⟨x2, r2, rfl, hn2⟩ := listN hn1
  obtain ⟨x3, r3, rfl, hn3⟩ := listN hn2
  obtain ⟨x4, r4, rfl, hn4⟩ := listN hn3
  obtain ⟨x5, r5, rfl, hn5⟩ := listN hn4
  obtain ⟨x6, r6, rfl, hn6⟩ := listN hn5
  obtain ⟨x7, r7, rfl, hn7⟩ := listN hn6
  obtain ⟨x8, r8, rfl, hn8⟩ := listN hn7
  obtain ⟨x9, r9, rfl, hn9⟩ := listN hn8
  obtain ⟨x10, r10, rfl, hn10⟩ := listN hn9
  obtain ⟨x11, r11, rfl, hn11⟩ := listN hn10
  obtain rfl := list0 hn11
  have hlen : ys.length = 2 := by simpa using hlen
  obtain ⟨y0, s0, rfl, hk0⟩ := listN hlen
  obtain ⟨y1, s1, rfl, hk1⟩ := listN hk0
  obtain rfl := list0 hk1
  have g0 := hfs 0 _ rfl
  simp [Tryz.cellsOfVote] at g0
  obtain ⟨n0, e0, k0, b0⟩ := open_Vote enc W sp _ _ _ g0
  have g1 := hfs 1 _ rfl
  simp [Tryz.cellsOfVote] at g1
  obtain ⟨n1, e1, k1, b1⟩ := open_Vote enc W sp _ _ _ g1
  simp only [Vote.flds, Guilt.flds, Cert.flds, Header.flds, Turn.flds, Proof.flds, Sight.flds, Tx.flds, Block.flds, Motion.flds, Known.flds, Message.flds, Record.flds, Fld.val, Lst.fld, List.map_cons, List.map_nil, List.map_append, List.cons_append, List.nil_append, List.length_map, List.cons.injEq, and_true] at e0
  obtain ⟨rfl, rfl, rfl, rfl, rfl, rfl⟩ := e0
  simp only [Vote.flds, Guilt.flds, Cert.flds, Header.flds, Turn.flds, Proof.flds, Sight.flds, Tx.flds, Block.flds, Motion.flds, Known.flds, Message.flds, Record.flds, Fld.val, Lst.fld, List.map_cons, List.map_nil, List.map_append, List.cons_append, List.nil_append, List.length_map, List.cons.injEq, and_true] at e1
  obtain ⟨rfl, rfl, rfl, rfl, rfl, rfl⟩ := e1
  refine ⟨⟨n0, n1⟩, ?_, ?_, ?_⟩
  · simp [Vote.flds, Guilt.flds, Cert.flds, Header.flds, Turn.flds, Proof.flds, Sight.flds, Tx.flds, Block.flds, Motion.flds, Known.flds, Message.flds, Record.flds, Fld.val, Lst.fld, pairF]
  · exact goods.mk k0 (k1)
  · have p0 := bulk_pos y0.1
    have p1 := bulk_pos y1.1
    simp only [Guilt.atoms, wtL_append, nums, digs, intA, pairA, flagL, digL, textL, listL, benchL, List.map, wtL, Atom.wt, flagB, be_len, List.length_cons, List.length_nil, Rows.uptoBulkAll, Rows.uptoBulk] at *
    omega
theorem open_Block {H : Type} (enc : TypeId × Value → H) (W : World) (sp : Nat → Bool) : Opened enc W sp Block.flds Block.atoms 31 := by
  intro fuel cs x h
  obtain ⟨ys, m, _, rfl, hn, hlen, hfs⟩ := DataW.trod_struct Tryz.underlying31 h
  rw [Tryz.cellsOfBlock] at hn
  obtain ⟨x0, r0, rfl, hn0⟩ := listN hn
  obtain ⟨x1, r1, rfl, hn1⟩ := listN hn0
  obtain ⟨x2, r2, rfl, hn2⟩ := listN hn1
  obtain ⟨x3, r3, rfl, hn3⟩ := listN hn2
  obtain ⟨x4, r4, rfl, hn4⟩ := listN hn3
  obtain ⟨x5, r5, rfl, hn5⟩ := listN hn4
  obtain ⟨x6, r6, rfl, hn6⟩ := listN hn5
  obtain ⟨x7, r7, rfl, hn7⟩ := listN hn6
  obtain ⟨x8, r8, rfl, hn8⟩ := listN hn7
  obtain ⟨x9, r9, rfl, hn9⟩ := listN hn8
  obtain ⟨x10, r10, rfl, hn10⟩ := listN hn9
  obtain rfl := list0 hn10
  have hlen : ys.length = 3 := by simpa using hlen
  obtain ⟨y0, s0, rfl, hk0⟩ := listN hlen
  obtain ⟨y1, s1, rfl, hk1⟩ := listN hk0
  obtain ⟨y2, s2, rfl, hk2⟩ := listN hk1
  obtain rfl := list0 hk2
  have g0 := hfs 0 _ rfl
  simp [Tryz.cellsOfHeader] at g0
  obtain ⟨n0, e0, k0, b0⟩ := open_Header enc W sp _ _ _ g0
  have g1 := hfs 1 _ rfl
  simp [Tryz.cellsOfLTx] at g1
  obtain ⟨n1, e1, k1, b1⟩ := open_lst (atoms := Tx.atoms) Tx.len (by omega) Tryz.underlying28 Tryz.cellsOfTx (open_Tx enc W sp) _ _ _ g1
  have g2 := hfs 2 _ rfl
  simp [Tryz.cellsOfLGuilt] at g2
  obtain ⟨n2, e2, k2, b2⟩ := open_lst (atoms := Guilt.atoms) Guilt.len (by omega) Tryz.underlying29 Tryz.cellsOfGuilt (open_Guilt enc W sp) _ _ _ g2
  simp only [Vote.flds, Guilt.flds, Cert.flds, Header.flds, Turn.flds, Proof.flds, Sight.flds, Tx.flds, Block.flds, Motion.flds, Known.flds, Message.flds, Record.flds, Fld.val, Lst.fld, List.map_cons, List.map_nil, List.map_append, List.cons_append, List.nil_append, List.length_map, List.cons.injEq, and_true] at e0
  obtain ⟨rfl, rfl, rfl, rfl, rfl, rfl, rfl, rfl, rfl⟩ := e0
  simp only [List.cons.injEq, and_true] at e1
  subst e1
  simp only [List.cons.injEq, and_true] at e2
  subst e2
  refine ⟨⟨n0, n1, n2⟩, ?_, ?_, ?_⟩
  · simp [Vote.flds, Guilt.flds, Cert.flds, Header.flds, Turn.flds, Proof.flds, Sight.flds, Tx.flds, Block.flds, Motion.flds, Known.flds, Message.flds, Record.flds, Fld.val, Lst.fld, pairF]
  · exact goods.mk k0 (goods_cons (k1) (goods_cons (k2) (goods_nil _ _)))
  · have p0 := bulk_pos y0.1
    have p1 := bulk_pos y1.1
    have p2 := bulk_pos y2.1
    simp only [Block.atoms, wtL_append, nums, digs, intA, pairA, flagL, digL, textL, listL, benchL, List.map, wtL, Atom.wt, flagB, be_len, List.length_cons, List.length_nil, Rows.uptoBulkAll, Rows.uptoBulk] at *
    omega
end Go.Proofs.YtgppnghnjdkfdaaGreat

namespace Go.Proofs.YtgppnghnjdkfdaaGreat
open Go.ChangeShapes Go.WideShapes Go.ChangeAt Go.RowKit
set_option linter.unusedVariables false
set_option linter.unusedSimpArgs false







theorem Tryz.cellsOfLCert : Tryz.prog.cellsOf 32 = 1 := by kernel_rfl

theorem Tryz.cellsOfMotion : Tryz.prog.cellsOf 34 = 14 := by kernel_rfl

theorem Tryz.cellsOfKnown : Tryz.prog.cellsOf 39 = 17 := by kernel_rfl



theorem open_Motion {H : Type} (enc : TypeId × Value → H) (W : World) (sp : Nat → Bool) : Opened enc W sp Motion.flds Motion.atoms 34 := by
  intro fuel cs x h
  obtain ⟨ys, m, _, rfl, hn, hlen, hfs⟩ := DataW.trod_struct Tryz.underlying34 h
  rw [Tryz.cellsOfMotion] at hn
  obtain ⟨x0, r0, rfl, hn0⟩ := listN hn
  obtain ⟨x1, r1, rfl, hn1⟩ := listN hn0
  obtain ⟨x2, r2, rfl, hn2⟩ := listN hn1
  obtain ⟨x3, r3, rfl, hn3⟩ := listN hn2
  obtain ⟨x4, r4, rfl, hn4⟩ := listN hn3
  obtain ⟨x5, r5, rfl, hn5⟩ := listN hn4
  obtain ⟨x6, r6, rfl, hn6⟩ := listN hn5
  obtain ⟨x7, r7, rfl, hn7⟩ := listN hn6
  obtain ⟨x8, r8, rfl, hn8⟩ := listN hn7
  obtain ⟨x9, r9, rfl, hn9⟩ := listN hn8
  obtain ⟨x10, r10, rfl, hn10⟩ := listN hn9
  obtain ⟨x11, r11, rfl, hn11⟩ := listN hn10
  obtain ⟨x12, r12, rfl, hn12⟩ := listN hn11
  obtain ⟨x13, r13, rfl, hn13⟩ := listN hn12
  obtain rfl := list0 hn13
  have hlen : ys.length = 4 := by simpa using hlen
  obtain ⟨y0, s0, rfl, hk0⟩ := listN hlen
  obtain ⟨y1, s1, rfl, hk1⟩ := listN hk0
  obtain ⟨y2, s2, rfl, hk2⟩ := listN hk1
  obtain ⟨y3, s3, rfl, hk3⟩ := listN hk2
  obtain rfl := list0 hk3
  have g0 := hfs 0 _ rfl
  simp [Tryz.cellsOf3] at g0
  obtain ⟨n0, e0, hy0, z0⟩ := DataW.trod_int Tryz.underlying3 g0
  have g1 := hfs 1 _ rfl
  simp [Tryz.cellsOf3] at g1
  obtain ⟨n1, e1, hy1, z1⟩ := DataW.trod_int Tryz.underlying3 g1
  have g2 := hfs 2 _ rfl
  simp [Tryz.cellsOfBlock] at g2
  obtain ⟨n2, e2, k2, b2⟩ := open_Block enc W sp _ _ _ g2
  have g3 := hfs 3 _ rfl
  simp [Tryz.cellsOfLCert] at g3
  obtain ⟨n3, e3, k3, b3⟩ := open_lst (atoms := Cert.atoms) Cert.len (by omega) Tryz.underlying32 Tryz.cellsOfCert (open_Cert enc W sp) _ _ _ g3
  simp only [List.cons.injEq, and_true] at e0
  subst e0
  simp only [List.cons.injEq, and_true] at e1
  subst e1
  simp only [Vote.flds, Guilt.flds, Cert.flds, Header.flds, Turn.flds, Proof.flds, Sight.flds, Tx.flds, Block.flds, Motion.flds, Known.flds, Message.flds, Record.flds, Fld.val, Lst.fld, List.map_cons, List.map_nil, List.map_append, List.cons_append, List.nil_append, List.length_map, List.cons.injEq, and_true] at e2
  obtain ⟨rfl, rfl, rfl, rfl, rfl, rfl, rfl, rfl, rfl, rfl, rfl⟩ := e2
  simp only [List.cons.injEq, and_true] at e3
  subst e3
  subst hy0
  subst hy1
  refine ⟨⟨n0, n1, n2, n3⟩, ?_, ?_, ?_⟩
  · simp [Vote.flds, Guilt.flds, Cert.flds, Header.flds, Turn.flds, Proof.flds, Sight.flds, Tx.flds, Block.flds, Motion.flds, Known.flds, Message.flds, Record.flds, Fld.val, Lst.fld, pairF]
  · exact goods.mk (goods_cons (i64_wf z0) (goods_cons (i64_wf z1) (goods_nil _ _))) (goods.mk k2 (goods_cons (k3) (goods_nil _ _)))
  · have p2 := bulk_pos y2.1
    have p3 := bulk_pos y3.1
    simp only [Motion.atoms, wtL_append, nums, digs, intA, pairA, flagL, digL, textL, listL, benchL, List.map, wtL, Atom.wt, flagB, be_len, List.length_cons, List.length_nil, Rows.uptoBulkAll, Rows.uptoBulk] at *
    omega

theorem open_Known {H : Type} (enc : TypeId × Value → H) (W : World) (sp : Nat → Bool) : Opened enc W sp Known.flds Known.atoms 39 := by
  intro fuel cs x h
  obtain ⟨ys, m, _, rfl, hn, hlen, hfs⟩ := DataW.trod_struct Tryz.underlying39 h
  rw [Tryz.cellsOfKnown] at hn
  obtain ⟨x0, r0, rfl, hn0⟩ := listN hn
  obtain ⟨x1, r1, rfl, hn1⟩ := listN hn0
  obtain ⟨x2, r2, rfl, hn2⟩ := listN hn1
  obtain ⟨x3, r3, rfl, hn3⟩ := listN hn2
  obtain ⟨x4, r4, rfl, hn4⟩ := listN hn3
  obtain ⟨x5, r5, rfl, hn5⟩ := listN hn4
  obtain ⟨x6, r6, rfl, hn6⟩ := listN hn5
  obtain ⟨x7, r7, rfl, hn7⟩ := listN hn6
  obtain ⟨x8, r8, rfl, hn8⟩ := listN hn7
  obtain ⟨x9, r9, rfl, hn9⟩ := listN hn8
  obtain ⟨x10, r10, rfl, hn10⟩ := listN hn9
  obtain ⟨x11, r11, rfl, hn11⟩ := listN hn10
  obtain ⟨x12, r12, rfl, hn12⟩ := listN hn11
  obtain ⟨x13, r13, rfl, hn13⟩ := listN hn12
  obtain ⟨x14, r14, rfl, hn14⟩ := listN hn13
  obtain ⟨x15, r15, rfl, hn15⟩ := listN hn14
  obtain ⟨x16, r16, rfl, hn16⟩ := listN hn15
  obtain rfl := list0 hn16
  have hlen : ys.length = 2 := by simpa using hlen
  obtain ⟨y0, s0, rfl, hk0⟩ := listN hlen
  obtain ⟨y1, s1, rfl, hk1⟩ := listN hk0
  obtain rfl := list0 hk1
  have g0 := hfs 0 _ rfl
  simp [Tryz.cellsOfCert] at g0
  obtain ⟨n0, e0, k0, b0⟩ := open_Cert enc W sp _ _ _ g0
  have g1 := hfs 1 _ rfl
  simp [Tryz.cellsOfBlock] at g1
  obtain ⟨n1, e1, k1, b1⟩ := open_Block enc W sp _ _ _ g1
  simp only [Vote.flds, Guilt.flds, Cert.flds, Header.flds, Turn.flds, Proof.flds, Sight.flds, Tx.flds, Block.flds, Motion.flds, Known.flds, Message.flds, Record.flds, Fld.val, Lst.fld, List.map_cons, List.map_nil, List.map_append, List.cons_append, List.nil_append, List.length_map, List.cons.injEq, and_true] at e0
  obtain ⟨rfl, rfl, rfl, rfl, rfl, rfl⟩ := e0
  simp only [Vote.flds, Guilt.flds, Cert.flds, Header.flds, Turn.flds, Proof.flds, Sight.flds, Tx.flds, Block.flds, Motion.flds, Known.flds, Message.flds, Record.flds, Fld.val, Lst.fld, List.map_cons, List.map_nil, List.map_append, List.cons_append, List.nil_append, List.length_map, List.cons.injEq, and_true] at e1
  obtain ⟨rfl, rfl, rfl, rfl, rfl, rfl, rfl, rfl, rfl, rfl, rfl⟩ := e1
  refine ⟨⟨n0, n1⟩, ?_, ?_, ?_⟩
  · simp [Vote.flds, Guilt.flds, Cert.flds, Header.flds, Turn.flds, Proof.flds, Sight.flds, Tx.flds, Block.flds, Motion.flds, Known.flds, Message.flds, Record.flds, Fld.val, Lst.fld, pairF]
  · exact goods.mk k0 (k1)
  · have p0 := bulk_pos y0.1
    have p1 := bulk_pos y1.1
    simp only [Known.atoms, wtL_append, nums, digs, intA, pairA, flagL, digL, textL, listL, benchL, List.map, wtL, Atom.wt, flagB, be_len, List.length_cons, List.length_nil, Rows.uptoBulkAll, Rows.uptoBulk] at *
    omega


end Go.Proofs.YtgppnghnjdkfdaaGreat

namespace Go.Proofs.YtgppnghnjdkfdaaGreat
open Go.ChangeShapes Go.WideShapes Go.ChangeAt Go.RowKit
set_option linter.unusedVariables false
set_option linter.unusedSimpArgs false

theorem Tryz.cellsOfRecord : Tryz.prog.cellsOf 41 = 38 := by kernel_rfl
theorem parts4 {α : Type} (cs : List α) (h : cs.length = 38) : cs = cs.take 1 ++ ((cs.drop 1).take 6 ++ ((cs.drop 7).take 14 ++ (cs.drop 21).take 17)) := by
  have h4 : (cs.drop 21).take 17 = cs.drop 21 := List.take_of_length_le (by simp; omega)
  have h3 : (cs.drop 7).take 14 ++ cs.drop 21 = cs.drop 7 := by
    have := List.take_append_drop 14 (cs.drop 7)
    rwa [List.drop_drop] at this
  have h2 : (cs.drop 1).take 6 ++ cs.drop 7 = cs.drop 1 := by
    have := List.take_append_drop 6 (cs.drop 1)
    rwa [List.drop_drop] at this
  rw [h4, h3, h2, List.take_append_drop]

theorem open_Record {H : Type} (enc : TypeId × Value → H) (W : World) (sp : Nat → Bool) (fuel : Nat) (cs : List Value) (x : DataW H × List MemPlace) (h : DataW.trod enc Tryz.prog W 0 sp true fuel 41 cs = some x) :
    ∃ y : Record, cs = (y.flds).map Fld.val ∧ goods W.heap.size W y.flds ∧ wtL y.vo.atoms ≤ 9 * Rows.uptoBulk x.1 ∧ wtL y.mo.atoms ≤ 9 * Rows.uptoBulk x.1 ∧ wtL y.kn.atoms ≤ 9 * Rows.uptoBulk x.1 := by
  obtain ⟨ys, m, _, rfl, hn, hlen, hfs⟩ := DataW.trod_struct Tryz.underlying41 h
  rw [Tryz.cellsOfRecord] at hn
  have hlen : ys.length = 4 := by simpa using hlen
  obtain ⟨y0, s0, rfl, hk0⟩ := listN hlen
  obtain ⟨y1, s1, rfl, hk1⟩ := listN hk0
  obtain ⟨y2, s2, rfl, hk2⟩ := listN hk1
  obtain ⟨y3, s3, rfl, hk3⟩ := listN hk2
  obtain rfl := list0 hk3
  have hp := parts4 cs hn
  have g0 := hfs 0 _ rfl
  simp [Tryz.cellsOf3] at g0
  obtain ⟨n0, e0, hy0, z0⟩ := DataW.trod_int Tryz.underlying3 g0
  have g1 := hfs 1 _ rfl
  simp [Tryz.cellsOfVote] at g1
  obtain ⟨n1, e1, k1, b1⟩ := open_Vote enc W sp _ _ _ g1
  have g2 := hfs 2 _ rfl
  simp [Tryz.cellsOfMotion] at g2
  obtain ⟨n2, e2, k2, b2⟩ := open_Motion enc W sp _ _ _ g2
  have g3 := hfs 3 _ rfl
  simp [Tryz.cellsOfKnown] at g3
  obtain ⟨n3, e3, k3, b3⟩ := open_Known enc W sp _ _ _ g3
  refine ⟨⟨n0, n1, n2, n3⟩, ?_, ?_, ?_, ?_, ?_⟩
  · rw [List.drop_one] at hp
    rw [hp, e0, e1, e2, e3]
    simp only [Record.flds, List.map_append, List.map_cons, List.map_nil, Fld.val]
  · refine goods_cons (i64_wf z0) ?_
    intro f hf
    have hf : f ∈ n1.flds ++ (n2.flds ++ n3.flds) := hf
    rcases List.mem_append.1 hf with hf | hf
    · exact k1 f hf
    rcases List.mem_append.1 hf with hf | hf
    · exact k2 f hf
    · exact k3 f hf
  · simp only [List.map_cons, List.map_nil, Rows.uptoBulk, Rows.uptoBulkAll] at b1 ⊢; omega
  · simp only [List.map_cons, List.map_nil, Rows.uptoBulk, Rows.uptoBulkAll] at b2 ⊢; omega
  · simp only [List.map_cons, List.map_nil, Rows.uptoBulk, Rows.uptoBulkAll] at b3 ⊢; omega
end Go.Proofs.YtgppnghnjdkfdaaGreat
