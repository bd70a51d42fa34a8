/- Arguments that hold lists, opened: their cells, what may be in them, how much there is of them. -/
import Derived.Test.YtblnlfcfjbfhiaaGreatRows
import Derived.Test.YtblnlfcfjbfhiaaGreatXThings
import Derived.WalkKit
import Derived.ProofKit
import Derived.OpenShut
import Derived.ChangeOld
import Derived.ChangeArms
import Derived.Deep.Slices
namespace Go.Proofs.YtblnlfcfjbfhiaaGreat.W
open Go.ChangeShapes Go.WideShapes Go.ChangeAt Go.RowKit
set_option linter.unusedVariables false
set_option linter.unusedSimpArgs false

theorem i64_wf {a : Int} (h : (Lit.int .i64 a).wf = true) : -9223372036854775808 ≤ a ∧ a ≤ 9223372036854775807 := by
  simpa [Lit.wf, IntKind.min, IntKind.max, IntKind.signed, IntKind.bits] using h

theorem u64_wf {a : Int} (h : (Lit.int .u64 a).wf = true) : 0 ≤ a ∧ a ≤ 18446744073709551615 := by
  simpa [Lit.wf, IntKind.min, IntKind.max, IntKind.signed, IntKind.bits] using h

theorem addr_add (b off i : Nat) : (⟨b, off, none⟩ : Addr).add i = ⟨b, off + i, none⟩ := by unfold Addr.add; split <;> simp_all

theorem bulk_pos {H : Type} (d : DataW H) : 1 ≤ Rows.uptoBulk d := by
  cases d with
  | lit l => cases l <;> simp [Rows.uptoBulk]
  | nil => simp [Rows.uptoBulk]
  | ptr d => simp [Rows.uptoBulk]
  | slice elems spare => simp [Rows.uptoBulk]
  | agg parts => simp [Rows.uptoBulk]
  | iface t d => simp [Rows.uptoBulk]
  | map entries => simp [Rows.uptoBulk]
  | held h => simp [Rows.uptoBulk]

theorem goods_nil (base : Nat) (w : World) : goods base w [] := fun f hf => by simp at hf

theorem goods_cons {base : Nat} {w : World} {f : Fld} {fs : List Fld} (h : f.good base w) (g : goods base w fs) : goods base w (f :: fs) := fun x hx => by
  rcases List.mem_cons.1 hx with rfl | hx
  · exact h
  · exact g x hx

theorem listN {α : Type} {l : List α} {n : Nat} (h : l.length = n + 1) : ∃ a r, l = a :: r ∧ r.length = n := by
  match l, h with
  | a :: r, h => exact ⟨a, r, rfl, by simpa using h⟩

theorem list0 {α : Type} {l : List α} (h : l.length = 0) : l = [] := List.eq_nil_of_length_eq_zero h

/-- A reading of this type is a thing, whole, and no greater than what is read. -/
def Opened {H : Type} (enc : TypeId × Value → H) (W : World) (sp : Nat → Bool) {α : Type} (flds : α → List Fld) (atoms : α → List Atom) (T : TypeId) : Prop :=
  ∀ (fuel : Nat) (cs : List Value) (x : DataW H × List MemPlace), DataW.trod enc Tryz.prog W 0 sp true fuel T cs = some x →
    ∃ y : α, cs = (flds y).map Fld.val ∧ goods W.heap.size W (flds y) ∧ wtL (atoms y) ≤ 9 * Rows.uptoBulk x.1

theorem each_wt {H α : Type} (atoms : α → List Atom) (q : Nat → α) (D : Nat → DataW H) : ∀ (l : List Nat), (∀ i ∈ l, wtL (atoms (q i)) ≤ 9 * Rows.uptoBulk (D i)) → wtL (eachL atoms (l.map q)) ≤ 9 * Rows.uptoBulkAll (l.map D)
  | [], _ => by simp [eachL, wtL]
  | i :: r, h => by
    have h1 := h i (by simp)
    have h2 := each_wt atoms q D r fun j hj => h j (by simp [hj])
    simp only [List.map_cons, eachL, wtL_append, Rows.uptoBulkAll]
    omega

theorem open_lst {H : Type} {enc : TypeId × Value → H} {W : World} {sp : Nat → Bool} {α : Type} [Inhabited α] {flds : α → List Fld} {atoms : α → List Atom} {sz : Nat} (hz : ∀ x, (flds x).length = sz) (hpos : 0 < sz) {t e : TypeId} (ht : Tryz.prog.underlying t = some (.slice e)) (ce : Tryz.prog.cellsOf e = sz)
    (h1 : Opened enc W sp flds atoms e) (fuel : Nat) (cs : List Value) (x : DataW H × List MemPlace) (h : DataW.trod enc Tryz.prog W 0 sp true fuel t cs = some x) :
    ∃ l : Lst α, cs = [.slice l.la l.xs.length l.lc] ∧ (l.fld flds).good W.heap.size W ∧ 6 + wtL (eachL atoms l.xs) ≤ 9 * Rows.uptoBulk x.1 := by
  rcases Deep.open_slice ht h with ⟨rfl, rfl⟩ | ⟨a, len, cap, m, n, D, Pl, rfl, hb, hl, hm, hmm, rfl, hx⟩
  · exact ⟨⟨none, 0, []⟩, rfl, Lst.good (sz := sz) hz ⟨Nat.le_refl _, Nat.zero_le _, .inl rfl⟩, by simp [eachL, wtL, Rows.uptoBulk]⟩
  · have hlm : len ≤ m := by rw [hmm]; split <;> omega
    have each : ∀ i, i < len → ∃ y : α, (∀ j f, (flds y)[j]? = some f → W.cell? ((a.add (i * sz)).add j) = some f.val) ∧ goods W.heap.size W (flds y) ∧ wtL (atoms y) ≤ 9 * Rows.uptoBulk (D i) := by
      intro i hi
      obtain ⟨cs', h2, h3⟩ := hx i (by omega)
      rw [ce] at h2
      obtain ⟨_, hlen, hcell⟩ := World.cells?_some h2
      obtain ⟨y, e1, g, b⟩ := h1 _ _ _ h3
      refine ⟨y, fun j f hj => ?_, g, b⟩
      have hj' : j < sz := by rw [← hz y]; exact (List.getElem?_eq_some_iff.1 hj).1
      rw [hcell j hj', e1, List.getElem?_map, hj]; rfl
    obtain ⟨q, hq⟩ := Deep.choose_lt each
    refine ⟨⟨some a, cap, (List.range len).map q⟩, by simp, Lst.good (sz := sz) hz ⟨by simpa using hl, hm, ?_⟩, ?_⟩
    · by_cases h0 : len = 0
      · left; simp [h0]
      · right
        obtain ⟨b, off, spot⟩ := a
        have hp0 : 0 < (flds (q 0)).length := by rw [hz]; exact hpos
        have hy := (hq 0 (by omega)).1 0 _ (List.getElem?_eq_getElem hp0)
        have hspot : spot = none := by simpa [Addr.add] using World.cell?_spot hy
        subst hspot
        have hlt := World.block_lt_of_cell? W _ hy
        have hlt' : b < W.heap.size := by simpa [Addr.add] using hlt
        refine ⟨b, off, rfl, hlt', hlt', fun i x hx => ?_⟩
        have hi : i < len := by
          have := (List.getElem?_eq_some_iff.1 hx).1
          simpa using this
        have hxq : x = q i := by
          rw [List.getElem?_map, List.getElem?_range hi] at hx
          simpa using hx.symm
        subst hxq
        obtain ⟨h2, h3, _⟩ := hq i hi
        refine CellsAt.mk (fun j f hj => ?_) h3
        have := h2 j f hj
        rw [addr_add, addr_add] at this
        exact this
    · have := each_wt atoms q D (List.range len) fun i hi => (hq i (List.mem_range.1 hi)).2.2
      simp only [Rows.uptoBulk]
      omega

theorem str_eta (s : ByteArray) : s = ⟨(s.data.toList).toArray⟩ := by
  cases s; simp

theorem Tryz.cellsOf3 : Tryz.prog.cellsOf 3 = 1 := by kernel_rfl

theorem Tryz.cellsOfB : Tryz.prog.cellsOf 4 = 1 := by kernel_rfl

theorem Tryz.cellsOfD : Tryz.prog.cellsOf 23 = 1 := by kernel_rfl

theorem Tryz.cellsOfS : Tryz.prog.cellsOf 9 = 1 := by kernel_rfl
instance : Inhabited Vote := ⟨⟨0, 0, 0, false, 0, 0⟩⟩
instance : Inhabited Guilt := ⟨⟨default, default⟩⟩
instance : Inhabited Cert := ⟨⟨0, 0, 0, false, 0, ⟨none, 0, []⟩⟩⟩
instance : Inhabited Header := ⟨⟨0, 0, 0, 0, 0, 0, 0, 0, 0⟩⟩
instance : Inhabited Turn := ⟨⟨0, 0⟩⟩
instance : Inhabited Proof := ⟨⟨⟨none, 0, []⟩, false, [], []⟩⟩
instance : Inhabited Sight := ⟨⟨default, default, ⟨none, 0, []⟩⟩⟩
instance : Inhabited Tx := ⟨⟨0, 0, 0, 0, 0, 0, 0, [], ⟨none, 0, []⟩, ⟨none, 0, []⟩, ⟨none, 0, []⟩⟩⟩
instance : Inhabited Block := ⟨⟨default, ⟨none, 0, []⟩, ⟨none, 0, []⟩⟩⟩
instance : Inhabited Motion := ⟨⟨0, 0, default, ⟨none, 0, []⟩⟩⟩
instance : Inhabited Known := ⟨⟨default, default⟩⟩

theorem open_int {H : Type} (enc : TypeId × Value → H) (W : World) (sp : Nat → Bool) : Opened enc W sp intF intA 3 := by
  intro fuel cs x h
  obtain ⟨n, rfl, rfl, z⟩ := DataW.trod_int Tryz.underlying3 h
  exact ⟨n, rfl, goods_cons (i64_wf z) (goods_nil _ _), by simp [intA, wtL, Atom.wt, Rows.uptoBulk]⟩

theorem Tryz.cellsOfLInt : Tryz.prog.cellsOf 30 = 1 := by kernel_rfl

theorem Tryz.cellsOfLPair : Tryz.prog.cellsOf 24 = 1 := by kernel_rfl



theorem Tryz.cellsOfLSight : Tryz.prog.cellsOf 38 = 1 := by kernel_rfl



theorem Tryz.cellsOfPair : Tryz.prog.cellsOf 52 = 2 := by kernel_rfl

theorem Tryz.cellsOfHeader : Tryz.prog.cellsOf 29 = 9 := by kernel_rfl

theorem Tryz.cellsOfCert : Tryz.prog.cellsOf 32 = 6 := by kernel_rfl





theorem Tryz.cellsOfSight : Tryz.prog.cellsOf 34 = 16 := by kernel_rfl



theorem open_Pair {H : Type} (enc : TypeId × Value → H) (W : World) (sp : Nat → Bool) : Opened enc W sp pairF pairA 52 := by
  intro fuel cs x h
  obtain ⟨ys, m, _, rfl, hn, hlen, hfs⟩ := DataW.trod_struct Tryz.underlying52 h
  rw [Tryz.cellsOfPair] at hn
  obtain ⟨x0, r0, rfl, hn0⟩ := listN hn
  obtain ⟨x1, r1, rfl, hn1⟩ := listN hn0
  obtain rfl := list0 hn1
  have hlen : ys.length = 2 := by simpa using hlen
  obtain ⟨y0, s0, rfl, hk0⟩ := listN hlen
  obtain ⟨y1, s1, rfl, hk1⟩ := listN hk0
  obtain rfl := list0 hk1
  have g0 := hfs 0 _ rfl
  simp [Tryz.cellsOf3] at g0
  obtain ⟨n0, e0, hy0, z0⟩ := DataW.trod_int Tryz.underlying3 g0
  have g1 := hfs 1 _ rfl
  simp [Tryz.cellsOf3] at g1
  obtain ⟨n1, e1, hy1, z1⟩ := DataW.trod_int Tryz.underlying3 g1
  simp only [List.cons.injEq, and_true] at e0
  subst e0
  simp only [List.cons.injEq, and_true] at e1
  subst e1
  subst hy0
  subst hy1
  refine ⟨(n0, n1), ?_, ?_, ?_⟩
  · simp [Vote.flds, Guilt.flds, Cert.flds, Header.flds, Turn.flds, Proof.flds, Sight.flds, Tx.flds, Block.flds, Motion.flds, Known.flds, Message.flds, Record.flds, Fld.val, Lst.fld, pairF]
  · exact goods_cons (i64_wf z0) (goods_cons (i64_wf z1) (goods_nil _ _))
  · have p0 := True.intro
    simp only [ wtL_append, nums, digs, intA, pairA, flagL, digL, textL, listL, benchL, List.map, wtL, Atom.wt, flagB, be_len, List.length_cons, List.length_nil, Rows.uptoBulkAll, Rows.uptoBulk] at *
    omega

theorem open_Header {H : Type} (enc : TypeId × Value → H) (W : World) (sp : Nat → Bool) : Opened enc W sp Header.flds Header.atoms 29 := by
  intro fuel cs x h
  obtain ⟨ys, m, _, rfl, hn, hlen, hfs⟩ := DataW.trod_struct Tryz.underlying29 h
  rw [Tryz.cellsOfHeader] at hn
  obtain ⟨x0, r0, rfl, hn0⟩ := listN hn
  obtain ⟨x1, r1, rfl, hn1⟩ := listN hn0
  obtain ⟨x2, r2, rfl, hn2⟩ := listN hn1
  obtain ⟨x3, r3, rfl, hn3⟩ := listN hn2
  obtain ⟨x4, r4, rfl, hn4⟩ := listN hn3
  obtain ⟨x5, r5, rfl, hn5⟩ := listN hn4
  obtain ⟨x6, r6, rfl, hn6⟩ := listN hn5
  obtain ⟨x7, r7, rfl, hn7⟩ := listN hn6
  obtain ⟨x8, r8, rfl, hn8⟩ := listN hn7
  obtain rfl := list0 hn8
  have hlen : ys.length = 9 := by simpa using hlen
  obtain ⟨y0, s0, rfl, hk0⟩ := listN hlen
  obtain ⟨y1, s1, rfl, hk1⟩ := listN hk0
  obtain ⟨y2, s2, rfl, hk2⟩ := listN hk1
  obtain ⟨y3, s3, rfl, hk3⟩ := listN hk2
  obtain ⟨y4, s4, rfl, hk4⟩ := listN hk3
  obtain ⟨y5, s5, rfl, hk5⟩ := listN hk4
  obtain ⟨y6, s6, rfl, hk6⟩ := listN hk5
  obtain ⟨y7, s7, rfl, hk7⟩ := listN hk6
  obtain ⟨y8, s8, rfl, hk8⟩ := listN hk7
  obtain rfl := list0 hk8
  have g0 := hfs 0 _ rfl
  simp [Tryz.cellsOf3] at g0
  obtain ⟨n0, e0, hy0, z0⟩ := DataW.trod_int Tryz.underlying3 g0
  have g1 := hfs 1 _ rfl
  simp [Tryz.cellsOf3] at g1
  obtain ⟨n1, e1, hy1, z1⟩ := DataW.trod_int Tryz.underlying3 g1
  have g2 := hfs 2 _ rfl
  simp [Tryz.cellsOfD] at g2
  obtain ⟨n2, e2, hy2, z2⟩ := DataW.trod_int Tryz.underlying23 g2
  have g3 := hfs 3 _ rfl
  simp [Tryz.cellsOfD] at g3
  obtain ⟨n3, e3, hy3, z3⟩ := DataW.trod_int Tryz.underlying23 g3
  have g4 := hfs 4 _ rfl
  simp [Tryz.cellsOfD] at g4
  obtain ⟨n4, e4, hy4, z4⟩ := DataW.trod_int Tryz.underlying23 g4
  have g5 := hfs 5 _ rfl
  simp [Tryz.cellsOfD] at g5
  obtain ⟨n5, e5, hy5, z5⟩ := DataW.trod_int Tryz.underlying23 g5
  have g6 := hfs 6 _ rfl
  simp [Tryz.cellsOfD] at g6
  obtain ⟨n6, e6, hy6, z6⟩ := DataW.trod_int Tryz.underlying23 g6
  have g7 := hfs 7 _ rfl
  simp [Tryz.cellsOfD] at g7
  obtain ⟨n7, e7, hy7, z7⟩ := DataW.trod_int Tryz.underlying23 g7
  have g8 := hfs 8 _ rfl
  simp [Tryz.cellsOf3] at g8
  obtain ⟨n8, e8, hy8, z8⟩ := DataW.trod_int Tryz.underlying3 g8
  simp only [List.cons.injEq, and_true] at e0
  subst e0
  simp only [List.cons.injEq, and_true] at e1
  subst e1
  simp only [List.cons.injEq, and_true] at e2
  subst e2
  simp only [List.cons.injEq, and_true] at e3
  subst e3
  simp only [List.cons.injEq, and_true] at e4
  subst e4
  simp only [List.cons.injEq, and_true] at e5
  subst e5
  simp only [List.cons.injEq, and_true] at e6
  subst e6
  simp only [List.cons.injEq, and_true] at e7
  subst e7
  simp only [List.cons.injEq, and_true] at e8
  subst e8
  subst hy0
  subst hy1
  subst hy2
  subst hy3
  subst hy4
  subst hy5
  subst hy6
  subst hy7
  subst hy8
  refine ⟨⟨n0, n1, n2, n3, n4, n5, n6, n7, n8⟩, ?_, ?_, ?_⟩
  · simp [Vote.flds, Guilt.flds, Cert.flds, Header.flds, Turn.flds, Proof.flds, Sight.flds, Tx.flds, Block.flds, Motion.flds, Known.flds, Message.flds, Record.flds, Fld.val, Lst.fld, pairF]
  · exact goods_cons (i64_wf z0) (goods_cons (i64_wf z1) (goods_cons (u64_wf z2) (goods_cons (u64_wf z3) (goods_cons (u64_wf z4) (goods_cons (u64_wf z5) (goods_cons (u64_wf z6) (goods_cons (u64_wf z7) (goods_cons (i64_wf z8) (goods_nil _ _)))))))))
  · have p0 := True.intro
    simp only [Header.atoms, wtL_append, nums, digs, intA, pairA, flagL, digL, textL, listL, benchL, List.map, wtL, Atom.wt, flagB, be_len, List.length_cons, List.length_nil, Rows.uptoBulkAll, Rows.uptoBulk] at *
    omega

theorem open_Cert {H : Type} (enc : TypeId × Value → H) (W : World) (sp : Nat → Bool) : Opened enc W sp Cert.flds Cert.atoms 32 := by
  intro fuel cs x h
  obtain ⟨ys, m, _, rfl, hn, hlen, hfs⟩ := DataW.trod_struct Tryz.underlying32 h
  rw [Tryz.cellsOfCert] at hn
  obtain ⟨x0, r0, rfl, hn0⟩ := listN hn
  obtain ⟨x1, r1, rfl, hn1⟩ := listN hn0
  obtain ⟨x2, r2, rfl, hn2⟩ := listN hn1
  obtain ⟨x3, r3, rfl, hn3⟩ := listN hn2
  obtain ⟨x4, r4, rfl, hn4⟩ := listN hn3
  obtain ⟨x5, r5, rfl, hn5⟩ := listN hn4
  obtain rfl := list0 hn5
  have hlen : ys.length = 6 := by simpa using hlen
  obtain ⟨y0, s0, rfl, hk0⟩ := listN hlen
  obtain ⟨y1, s1, rfl, hk1⟩ := listN hk0
  obtain ⟨y2, s2, rfl, hk2⟩ := listN hk1
  obtain ⟨y3, s3, rfl, hk3⟩ := listN hk2
  obtain ⟨y4, s4, rfl, hk4⟩ := listN hk3
  obtain ⟨y5, s5, rfl, hk5⟩ := listN hk4
  obtain rfl := list0 hk5
  have g0 := hfs 0 _ rfl
  simp [Tryz.cellsOf3] at g0
  obtain ⟨n0, e0, hy0, z0⟩ := DataW.trod_int Tryz.underlying3 g0
  have g1 := hfs 1 _ rfl
  simp [Tryz.cellsOf3] at g1
  obtain ⟨n1, e1, hy1, z1⟩ := DataW.trod_int Tryz.underlying3 g1
  have g2 := hfs 2 _ rfl
  simp [Tryz.cellsOf3] at g2
  obtain ⟨n2, e2, hy2, z2⟩ := DataW.trod_int Tryz.underlying3 g2
  have g3 := hfs 3 _ rfl
  simp [Tryz.cellsOfB] at g3
  obtain ⟨n3, e3, hy3⟩ := DataW.trod_bool Tryz.underlying4 g3
  have g4 := hfs 4 _ rfl
  simp [Tryz.cellsOfD] at g4
  obtain ⟨n4, e4, hy4, z4⟩ := DataW.trod_int Tryz.underlying23 g4
  have g5 := hfs 5 _ rfl
  simp [Tryz.cellsOfLInt] at g5
  obtain ⟨n5, e5, k5, b5⟩ := open_lst (atoms := intA) intF_len (by omega) Tryz.underlying30 Tryz.cellsOf3 (open_int enc W sp) _ _ _ g5
  simp only [List.cons.injEq, and_true] at e0
  subst e0
  simp only [List.cons.injEq, and_true] at e1
  subst e1
  simp only [List.cons.injEq, and_true] at e2
  subst e2
  simp only [List.cons.injEq, and_true] at e3
  subst e3
  simp only [List.cons.injEq, and_true] at e4
  subst e4
  simp only [List.cons.injEq, and_true] at e5
  subst e5
  subst hy0
  subst hy1
  subst hy2
  subst hy3
  subst hy4
  refine ⟨⟨n0, n1, n2, n3, n4, n5⟩, ?_, ?_, ?_⟩
  · simp [Vote.flds, Guilt.flds, Cert.flds, Header.flds, Turn.flds, Proof.flds, Sight.flds, Tx.flds, Block.flds, Motion.flds, Known.flds, Message.flds, Record.flds, Fld.val, Lst.fld, pairF]
  · exact goods_cons (i64_wf z0) (goods_cons (i64_wf z1) (goods_cons (i64_wf z2) (goods_cons (trivial) (goods_cons (u64_wf z4) (goods_cons (k5) (goods_nil _ _))))))
  · have p5 := bulk_pos y5.1
    simp only [Cert.atoms, wtL_append, nums, digs, intA, pairA, flagL, digL, textL, listL, benchL, List.map, wtL, Atom.wt, flagB, be_len, List.length_cons, List.length_nil, Rows.uptoBulkAll, Rows.uptoBulk] at *
    omega





theorem open_Sight {H : Type} (enc : TypeId × Value → H) (W : World) (sp : Nat → Bool) : Opened enc W sp Sight.flds Sight.atoms 34 := by
  intro fuel cs x h
  obtain ⟨ys, m, _, rfl, hn, hlen, hfs⟩ := DataW.trod_struct Tryz.underlying34 h
  rw [Tryz.cellsOfSight] at hn
  obtain ⟨x0, r0, rfl, hn0⟩ := listN hn
  obtain ⟨x1, r1, rfl, hn1⟩ := listN hn0
  obtain ⟨x2, r2, rfl, hn2⟩ := listN hn1
  obtain ⟨x3, r3, rfl, hn3⟩ := listN hn2
  obtain ⟨x4, r4, rfl, hn4⟩ := listN hn3
  obtain ⟨x5, r5, rfl, hn5⟩ := listN hn4
  obtain ⟨x6, r6, rfl, hn6⟩ := listN hn5
  obtain ⟨x7, r7, rfl, hn7⟩ := listN hn6
  obtain ⟨x8, r8, rfl, hn8⟩ := listN hn7
  obtain ⟨x9, r9, rfl, hn9⟩ := listN hn8
  obtain ⟨x10, r10, rfl, hn10⟩ := listN hn9
  obtain ⟨x11, r11, rfl, hn11⟩ := listN hn10
  obtain ⟨x12, r12, rfl, hn12⟩ := listN hn11
  obtain ⟨x13, r13, rfl, hn13⟩ := listN hn12
  obtain ⟨x14, r14, rfl, hn14⟩ := listN hn13
  obtain ⟨x15, r15, rfl, hn15⟩ := listN hn14
  obtain rfl := list0 hn15
  have hlen : ys.length = 3 := by simpa using hlen
  obtain ⟨y0, s0, rfl, hk0⟩ := listN hlen
  obtain ⟨y1, s1, rfl, hk1⟩ := listN hk0
  obtain ⟨y2, s2, rfl, hk2⟩ := listN hk1
  obtain rfl := list0 hk2
  have g0 := hfs 0 _ rfl
  simp [Tryz.cellsOfHeader] at g0
  obtain ⟨n0, e0, k0, b0⟩ := open_Header enc W sp _ _ _ g0
  have g1 := hfs 1 _ rfl
  simp [Tryz.cellsOfCert] at g1
  obtain ⟨n1, e1, k1, b1⟩ := open_Cert enc W sp _ _ _ g1
  have g2 := hfs 2 _ rfl
  simp [Tryz.cellsOfLPair] at g2
  obtain ⟨n2, e2, k2, b2⟩ := open_lst (atoms := pairA) pairF_len (by omega) Tryz.underlying24 Tryz.cellsOfPair (open_Pair enc W sp) _ _ _ g2
  simp only [Vote.flds, Guilt.flds, Cert.flds, Header.flds, Turn.flds, Proof.flds, Sight.flds, Tx.flds, Block.flds, Motion.flds, Known.flds, Message.flds, Record.flds, Fld.val, Lst.fld, List.map_cons, List.map_nil, List.map_append, List.cons_append, List.nil_append, List.length_map, List.cons.injEq, and_true] at e0
  obtain ⟨rfl, rfl, rfl, rfl, rfl, rfl, rfl, rfl, rfl⟩ := e0
  simp only [Vote.flds, Guilt.flds, Cert.flds, Header.flds, Turn.flds, Proof.flds, Sight.flds, Tx.flds, Block.flds, Motion.flds, Known.flds, Message.flds, Record.flds, Fld.val, Lst.fld, List.map_cons, List.map_nil, List.map_append, List.cons_append, List.nil_append, List.length_map, List.cons.injEq, and_true] at e1
  obtain ⟨rfl, rfl, rfl, rfl, rfl, rfl⟩ := e1
  simp only [List.cons.injEq, and_true] at e2
  subst e2
  refine ⟨⟨n0, n1, n2⟩, ?_, ?_, ?_⟩
  · simp [Vote.flds, Guilt.flds, Cert.flds, Header.flds, Turn.flds, Proof.flds, Sight.flds, Tx.flds, Block.flds, Motion.flds, Known.flds, Message.flds, Record.flds, Fld.val, Lst.fld, pairF]
  · exact goods.mk k0 (goods.mk k1 (goods_cons (k2) (goods_nil _ _)))
  · have p0 := bulk_pos y0.1
    have p1 := bulk_pos y1.1
    have p2 := bulk_pos y2.1
    simp only [Sight.atoms, wtL_append, nums, digs, intA, pairA, flagL, digL, textL, listL, benchL, List.map, wtL, Atom.wt, flagB, be_len, List.length_cons, List.length_nil, Rows.uptoBulkAll, Rows.uptoBulk] at *
    omega


end Go.Proofs.YtblnlfcfjbfhiaaGreat.W
