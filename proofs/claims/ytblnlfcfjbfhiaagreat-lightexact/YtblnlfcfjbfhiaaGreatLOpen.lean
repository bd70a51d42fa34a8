/- Views and sights that come in: what their reading says of memory. -/
import Derived.Test.YtblnlfcfjbfhiaaGreatM46
import Derived.Test.YtblnlfcfjbfhiaaGreatXOpen
import Derived.SizedLaws
namespace Go.Proofs.YtblnlfcfjbfhiaaGreat
open Go.ChangeShapes Go.WideShapes Go.ChangeAt Go.RowKit
set_option linter.unusedVariables false
set_option linter.unusedSimpArgs false

theorem Tryz.cellsShn : Tryz.prog.cellsOf 36 = 17 := by kernel_rfl
theorem Tryz.cellsSgt : Tryz.prog.cellsOf 34 = 16 := by kernel_rfl
theorem Tryz.cellsVw : Tryz.prog.cellsOf 26 = 6 := by kernel_rfl
theorem Tryz.cellsI3 : Tryz.prog.cellsOf 3 = 1 := by kernel_rfl
theorem Tryz.cellsD3 : Tryz.prog.cellsOf 23 = 1 := by kernel_rfl
theorem Tryz.cellsLP : Tryz.prog.cellsOf 24 = 1 := by kernel_rfl

/-- A sight, and its number. -/
structure Shn where
  s : W.Sight
  t : Int
instance : Inhabited Shn := ⟨⟨default, 0⟩⟩
def Shn.flds (x : Shn) : List W.Fld := x.s.flds ++ [.i x.t]
theorem Shn.len (x : Shn) : x.flds.length = 17 := rfl

theorem wAll_mem {H : Type} {P : Program} {e : TypeId} : ∀ {l : List (DataW H)} {d : DataW H}, d ∈ l → ∀ n ∈ d.weights P e, n ∈ DataW.weightsAll P e l
  | y :: r, d, hd, n, hn => by
    simp only [DataW.weightsAll, List.mem_append]
    rcases List.mem_cons.1 hd with rfl | hd
    · exact .inl hn
    · exact .inr (wAll_mem hd n hn)
theorem len_small {H : Type} {enc : TypeId × Value → H} {W : World} {sp : Nat → Bool} {t e : TypeId} (ht : Tryz.prog.underlying t = some (.slice e)) (he : 1 ≤ Tryz.prog.bytesOf e) {fuel : Nat} {cs : List Value} {x : DataW H × List MemPlace} (h : DataW.trod enc Tryz.prog W 0 sp true fuel t cs = some x) (hs : ∀ n ∈ x.1.weights Tryz.prog t, n ≤ reachBytes) {la : Option Addr} {n c : Nat} (hc : cs = [.slice la n c]) : n ≤ reachBytes := by
  rcases DataW.trod_slice ht h with ⟨h0, _⟩ | ⟨a, len, cap, elems, rest, k, _, h1, rfl, _, _, _, hlen, _⟩
  · rw [hc] at h0
    simp only [List.cons.injEq, Value.slice.injEq, and_true] at h0
    rw [h0.2.1]
    exact Nat.zero_le _
  · rw [hc] at h1
    simp only [List.cons.injEq, Value.slice.injEq, and_true] at h1
    have h2 := hs (((elems.map (·.1)).length + (rest.map (·.1)).length) * Tryz.prog.bytesOf e) (by simp [DataW.weights, ht])
    have h3 := Nat.le_mul_of_pos_right ((elems.map (·.1)).length + (rest.map (·.1)).length) he
    rw [List.length_map, List.length_map] at h2 h3
    omega
theorem sight_small {H : Type} {enc : TypeId × Value → H} {W : World} {sp : Nat → Bool} {fuel : Nat} {cs : List Value} {x : DataW H × List MemPlace} (h : DataW.trod enc Tryz.prog W 0 sp true fuel 34 cs = some x) (hw : ∀ n ∈ x.1.weights Tryz.prog 34, n ≤ reachBytes) (y : Go.Proofs.YtblnlfcfjbfhiaaGreat.W.Sight) (hc : cs = y.flds.map Go.Proofs.YtblnlfcfjbfhiaaGreat.W.Fld.val) : y.se.xs.length ≤ reachBytes ∧ y.ce.fr.xs.length ≤ reachBytes := by
  obtain ⟨ys, m, _, rfl, hn, hlen, hfs⟩ := DataW.trod_struct Tryz.underlying34 h
  have hlen : ys.length = 3 := by simpa using hlen
  obtain ⟨y0, s0, rfl, hk0⟩ := Go.Proofs.YtblnlfcfjbfhiaaGreat.W.listN hlen
  obtain ⟨y1, s1, rfl, hk1⟩ := Go.Proofs.YtblnlfcfjbfhiaaGreat.W.listN hk0
  obtain ⟨y2, s2, rfl, hk2⟩ := Go.Proofs.YtblnlfcfjbfhiaaGreat.W.listN hk1
  obtain rfl := Go.Proofs.YtblnlfcfjbfhiaaGreat.W.list0 hk2
  have g1 := hfs 1 _ rfl
  have g2 := hfs 2 _ rfl
  simp [Tryz.cellsLP] at g2
  simp [Tryz.cellsCe] at g1
  have w1 : ∀ n ∈ y1.1.weights Tryz.prog 32, n ≤ reachBytes := fun n hn => hw n (by
    simp only [DataW.weights, Tryz.underlying34]
    exact DataW.weights_mem_each (j := 1) rfl rfl n hn)
  have w2 : ∀ n ∈ y2.1.weights Tryz.prog 24, n ≤ reachBytes := fun n hn => hw n (by
    simp only [DataW.weights, Tryz.underlying34]
    exact DataW.weights_mem_each (j := 2) rfl rfl n hn)
  subst hc
  refine ⟨len_small Tryz.underlying24 (by decide +kernel) g2 w2 (la := y.se.la) (c := y.se.lc) (by simp [Go.Proofs.YtblnlfcfjbfhiaaGreat.W.Sight.flds, Go.Proofs.YtblnlfcfjbfhiaaGreat.W.Header.flds, Go.Proofs.YtblnlfcfjbfhiaaGreat.W.Cert.flds, Go.Proofs.YtblnlfcfjbfhiaaGreat.W.Fld.val, Go.Proofs.YtblnlfcfjbfhiaaGreat.W.Lst.fld]), ?_⟩
  obtain ⟨zs, m2, _, rfl, hn2, hlen2, hfs2⟩ := DataW.trod_struct Tryz.underlying32 g1
  obtain ⟨z0, z1, z2, z3, z4, z5, rfl⟩ := six_of (l := zs) (by simpa using hlen2)
  have g5 := hfs2 5 _ rfl
  simp [Tryz.cellsIs] at g5
  have w5 : ∀ n ∈ z5.1.weights Tryz.prog 30, n ≤ reachBytes := fun n hn => w1 n (by
    simp only [DataW.weights, Tryz.underlying32]
    exact DataW.weights_mem_each (j := 5) rfl rfl n hn)
  exact len_small Tryz.underlying30 (by decide +kernel) g5 w5 (la := y.ce.fr.la) (c := y.ce.fr.lc) (by simp [Go.Proofs.YtblnlfcfjbfhiaaGreat.W.Sight.flds, Go.Proofs.YtblnlfcfjbfhiaaGreat.W.Header.flds, Go.Proofs.YtblnlfcfjbfhiaaGreat.W.Cert.flds, Go.Proofs.YtblnlfcfjbfhiaaGreat.W.Fld.val, Go.Proofs.YtblnlfcfjbfhiaaGreat.W.Lst.fld])

theorem open_Shn {H : Type} {enc : TypeId × Value → H} {W : World} {sp : Nat → Bool} {fuel : Nat} {cs : List Value} {x : DataW H × List MemPlace} (h : DataW.trod enc Tryz.prog W 0 sp true fuel 36 cs = some x) (hw : ∀ n ∈ x.1.weights Tryz.prog 36, n ≤ reachBytes) : ∃ y : Shn, cs = (Shn.flds y).map Go.Proofs.YtblnlfcfjbfhiaaGreat.W.Fld.val ∧ Go.Proofs.YtblnlfcfjbfhiaaGreat.W.goods W.heap.size W (Shn.flds y) ∧ y.s.se.xs.length ≤ reachBytes ∧ y.s.ce.fr.xs.length ≤ reachBytes := by
  obtain ⟨ys, m, _, rfl, hn, hlen, hfs⟩ := DataW.trod_struct Tryz.underlying36 h
  rw [Tryz.cellsShn] at hn
  have hlen : ys.length = 2 := by simpa using hlen
  obtain ⟨y0, s0, rfl, hk0⟩ := Go.Proofs.YtblnlfcfjbfhiaaGreat.W.listN hlen
  obtain ⟨y1, s1, rfl, hk1⟩ := Go.Proofs.YtblnlfcfjbfhiaaGreat.W.listN hk0
  obtain rfl := Go.Proofs.YtblnlfcfjbfhiaaGreat.W.list0 hk1
  have g0 := hfs 0 _ rfl
  simp [Tryz.cellsSgt] at g0
  obtain ⟨n0, e0, k0, b0⟩ := Go.Proofs.YtblnlfcfjbfhiaaGreat.W.open_Sight enc W sp _ _ _ g0
  have w0 : ∀ n ∈ y0.1.weights Tryz.prog 34, n ≤ reachBytes := fun n hn => hw n (by
    simp only [DataW.weights, Tryz.underlying36]
    exact DataW.weights_mem_each (j := 0) rfl rfl n hn)
  have hsm := sight_small g0 w0 n0 e0
  have g1 := hfs 1 _ rfl
  simp [Tryz.cellsI3] at g1
  obtain ⟨n1, e1, hy1, z1⟩ := DataW.trod_int Tryz.underlying3 g1
  refine ⟨⟨n0, n1⟩, ?_, ?_, hsm⟩
  · unfold Shn.flds
    rw [List.map_append, ← e0]
    have e2 : cs = cs.take 16 ++ cs.drop 16 := (List.take_append_drop 16 cs).symm
    have e3 : cs.drop 16 = [Value.int .i64 n1] := by
      rw [← e1, List.take_of_length_le (by rw [List.length_drop]; omega)]
    rw [e3] at e2
    exact e2
  · exact Go.Proofs.YtblnlfcfjbfhiaaGreat.W.goods.mk k0 (Go.Proofs.YtblnlfcfjbfhiaaGreat.W.goods_cons (Go.Proofs.YtblnlfcfjbfhiaaGreat.W.i64_wf z1) (Go.Proofs.YtblnlfcfjbfhiaaGreat.W.goods_nil _ _))

theorem open_Shns {H : Type} {enc : TypeId × Value → H} {W : World} {sp : Nat → Bool} {fuel : Nat} {cs : List Value} {x : DataW H × List MemPlace} (h : DataW.trod enc Tryz.prog W 0 sp true fuel 27 cs = some x) (hw : ∀ n ∈ x.1.weights Tryz.prog 27, n ≤ reachBytes) :
    ∃ l : Go.Proofs.YtblnlfcfjbfhiaaGreat.W.Lst Shn, cs = [.slice l.la l.xs.length l.lc] ∧ (l.fld Shn.flds).good W.heap.size W ∧ l.xs.length ≤ reachBytes ∧ ∀ y ∈ l.xs, y.s.se.xs.length ≤ reachBytes ∧ y.s.ce.fr.xs.length ≤ reachBytes := by
  rcases Deep.open_slice Tryz.underlying27 h with ⟨rfl, rfl⟩ | ⟨a, len, cap, m, n, D, Pl, rfl, hb, hl, hm, hmm, rfl, hx⟩
  · exact ⟨⟨none, 0, []⟩, rfl, Go.Proofs.YtblnlfcfjbfhiaaGreat.W.Lst.good (sz := 17) Shn.len ⟨Nat.le_refl _, Nat.zero_le _, .inl rfl⟩, Nat.zero_le _, fun y hy => by simp at hy⟩
  · have hlm : len ≤ m := by rw [hmm]; split <;> omega
    have hls := len_small Tryz.underlying27 (by decide +kernel) h hw rfl
    have wD : ∀ i, i < len → ∀ k ∈ (D i).weights Tryz.prog 36, k ≤ reachBytes := fun i hi k hk => hw k (by
      simp only [DataW.weights, Tryz.underlying27, List.mem_cons, List.mem_append]
      exact .inr (.inl (wAll_mem (List.mem_map.2 ⟨i, List.mem_range.2 hi, rfl⟩) k hk)))
    have each : ∀ i, i < len → ∃ y : Shn, (∀ j f, (Shn.flds y)[j]? = some f → W.cell? ((a.add (i * 17)).add j) = some f.val) ∧ Go.Proofs.YtblnlfcfjbfhiaaGreat.W.goods W.heap.size W (Shn.flds y) ∧ y.s.se.xs.length ≤ reachBytes ∧ y.s.ce.fr.xs.length ≤ reachBytes := by
      intro i hi
      obtain ⟨cs', h2, h3⟩ := hx i (by omega)
      rw [Tryz.cellsShn] at h2
      obtain ⟨_, hlen, hcell⟩ := World.cells?_some h2
      obtain ⟨y, e1, g, b⟩ := open_Shn h3 (wD i hi)
      refine ⟨y, fun j f hj => ?_, g, b⟩
      have hj' : j < 17 := by rw [← Shn.len y]; exact (List.getElem?_eq_some_iff.1 hj).1
      rw [hcell j hj', e1, List.getElem?_map, hj]; rfl
    obtain ⟨q, hq⟩ := Deep.choose_lt each
    refine ⟨⟨some a, cap, (List.range len).map q⟩, by simp, Go.Proofs.YtblnlfcfjbfhiaaGreat.W.Lst.good (sz := 17) Shn.len ⟨by simpa using hl, hm, ?_⟩, by simpa using hls, fun y hy => ?_⟩
    · by_cases h0 : len = 0
      · left; simp [h0]
      · right
        obtain ⟨b, off, spot⟩ := a
        have hp0 : 0 < (Shn.flds (q 0)).length := by rw [Shn.len]; omega
        have hy := (hq 0 (by omega)).1 0 _ (List.getElem?_eq_getElem hp0)
        have hspot : spot = none := by simpa [Addr.add] using World.cell?_spot hy
        subst hspot
        have hlt := World.block_lt_of_cell? W _ hy
        have hlt' : b < W.heap.size := by simpa [Addr.add] using hlt
        refine ⟨b, off, rfl, hlt', hlt', fun i x hx => ?_⟩
        have hi : i < len := by
          have := (List.getElem?_eq_some_iff.1 hx).1
          simpa using this
        have hxq : x = q i := by
          rw [List.getElem?_map, List.getElem?_range hi] at hx
          simpa using hx.symm
        subst hxq
        obtain ⟨h2, h3, _⟩ := hq i hi
        refine Go.Proofs.YtblnlfcfjbfhiaaGreat.W.CellsAt.mk (fun j f hj => ?_) h3
        have := h2 j f hj
        rw [addr_plus, addr_plus] at this
        exact this
    · obtain ⟨i, hi, rfl⟩ := List.mem_map.1 hy
      exact (hq i (List.mem_range.1 hi)).2.2

theorem open_View {H : Type} {enc : TypeId × Value → H} {W : World} {sp : Nat → Bool} {fuel : Nat} {cs : List Value} {x : DataW H × List MemPlace} (h : DataW.trod enc Tryz.prog W 0 sp true fuel 26 cs = some x) (hw : ∀ n ∈ x.1.weights Tryz.prog 26, n ≤ reachBytes) :
    ∃ (c wi ep h st : Int) (l : Go.Proofs.YtblnlfcfjbfhiaaGreat.W.Lst (Int × Int)), cs = [.int .i64 c, .int .i64 wi, .int .i64 ep, .int .i64 h, .int .u64 st, .slice l.la l.xs.length l.lc] ∧ InN c ∧ InN wi ∧ InN ep ∧ InN h ∧ InD st ∧ (l.fld Go.Proofs.YtblnlfcfjbfhiaaGreat.W.pairF).good W.heap.size W ∧ l.xs.length ≤ reachBytes := by
  obtain ⟨ys, m, _, rfl, hn, hlen, hfs⟩ := DataW.trod_struct Tryz.underlying26 h
  rw [Tryz.cellsVw] at hn
  obtain ⟨x0, x1, x2, x3, x4, x5, rfl⟩ := six_of hn
  obtain ⟨y0, y1, y2, y3, y4, y5, rfl⟩ := six_of (l := ys) (by simpa using hlen)
  have g0 := hfs 0 _ rfl
  simp [Tryz.cellsI3] at g0
  obtain ⟨n0, e0, hy0, z0⟩ := DataW.trod_int Tryz.underlying3 g0
  have g1 := hfs 1 _ rfl
  simp [Tryz.cellsI3] at g1
  obtain ⟨n1, e1, hy1, z1⟩ := DataW.trod_int Tryz.underlying3 g1
  have g2 := hfs 2 _ rfl
  simp [Tryz.cellsI3] at g2
  obtain ⟨n2, e2, hy2, z2⟩ := DataW.trod_int Tryz.underlying3 g2
  have g3 := hfs 3 _ rfl
  simp [Tryz.cellsI3] at g3
  obtain ⟨n3, e3, hy3, z3⟩ := DataW.trod_int Tryz.underlying3 g3
  have g4 := hfs 4 _ rfl
  simp [Tryz.cellsD3] at g4
  obtain ⟨n4, e4, hy4, z4⟩ := DataW.trod_int Tryz.underlying23 g4
  have g5 := hfs 5 _ rfl
  simp [Tryz.cellsLP] at g5
  obtain ⟨n5, e5, k5, b5⟩ := Go.Proofs.YtblnlfcfjbfhiaaGreat.W.open_lst (atoms := Go.Proofs.YtblnlfcfjbfhiaaGreat.W.pairA) Go.Proofs.YtblnlfcfjbfhiaaGreat.W.pairF_len (by omega) Tryz.underlying24 Go.Proofs.YtblnlfcfjbfhiaaGreat.W.Tryz.cellsOfPair (Go.Proofs.YtblnlfcfjbfhiaaGreat.W.open_Pair enc W sp) _ _ _ g5
  have w5 : ∀ n ∈ y5.1.weights Tryz.prog 24, n ≤ reachBytes := fun n hn => hw n (by
    simp only [DataW.weights, Tryz.underlying26]
    exact DataW.weights_mem_each (j := 5) rfl rfl n hn)
  have hls := len_small Tryz.underlying24 (by decide +kernel) g5 w5 e5
  simp only [List.cons.injEq, and_true] at e0 e1 e2 e3 e4 e5
  subst e0 e1 e2 e3 e4 e5
  refine ⟨n0, n1, n2, n3, n4, n5, rfl, Go.Proofs.YtblnlfcfjbfhiaaGreat.W.i64_wf z0, Go.Proofs.YtblnlfcfjbfhiaaGreat.W.i64_wf z1, Go.Proofs.YtblnlfcfjbfhiaaGreat.W.i64_wf z2, Go.Proofs.YtblnlfcfjbfhiaaGreat.W.i64_wf z3, Go.Proofs.YtblnlfcfjbfhiaaGreat.W.u64_wf z4, k5, hls⟩

theorem sl_of {w : World} {l : W.Lst (Int × Int)} (h : (l.fld W.pairF).good w.heap.size w) : SL w l.la l.xs l.lc ∧ ∀ x ∈ l.xs, InI x := by
  obtain ⟨h1, h2, h3⟩ := W.Lst.held (sz := 2) (fun _ => rfl) h
  rcases h3 with e | ⟨rb, ro, e, hl, hz, hc⟩
  · exact ⟨⟨.inl e, h1, h2⟩, by rw [e]; simp⟩
  · refine ⟨⟨.inr ⟨rb, ro, e, hz, fun i x hx => ?_⟩, h1, h2⟩, fun x hx => ?_⟩
    · obtain ⟨q1, _, q2, _⟩ := hc i x hx
      exact ⟨q1, q2⟩
    · obtain ⟨i, hi, rfl⟩ := List.getElem_of_mem hx
      obtain ⟨_, q1, _, q2, _⟩ := hc i _ (List.getElem?_eq_getElem hi)
      exact ⟨q1, q2⟩
theorem ints_of {w : World} {l : W.Lst Int} (h : (l.fld W.intF).good w.heap.size w) : IntsAt w l.la l.xs ∧ l.xs.length ≤ l.lc ∧ l.lc ≤ maxLen ∧ ∀ x ∈ l.xs, InN x := by
  obtain ⟨h1, h2, h3⟩ := W.Lst.held (sz := 1) (fun _ => rfl) h
  rcases h3 with e | ⟨rb, ro, e, hl, hz, hc⟩
  · exact ⟨.inl e, h1, h2, by rw [e]; simp⟩
  · refine ⟨.inr ⟨rb, ro, e, hz, fun i x hx => ?_⟩, h1, h2, fun x hx => ?_⟩
    · obtain ⟨q1, _⟩ := hc i x hx
      rw [Nat.mul_one] at q1
      exact q1
    · obtain ⟨i, hi, rfl⟩ := List.getElem_of_mem hx
      obtain ⟨_, q1, _⟩ := hc i _ (List.getElem?_eq_getElem hi)
      exact q1

/-- The sight as the law's texts have it. -/
def sgOf (x : W.Sight) : Sg := ⟨x.hd.c, x.hd.h, x.hd.pa, x.hd.tx, x.hd.gu, x.hd.st, x.hd.re, x.hd.be, x.hd.pr, x.ce.h, x.ce.r, x.ce.s, x.ce.has, x.ce.bl, x.ce.fr.la, x.ce.fr.lc, x.ce.fr.xs, x.se.la, x.se.lc, x.se.xs⟩
theorem sgOf_ok {x : W.Sight} {w : World} (h : W.goods w.heap.size w x.flds) (h1 : x.se.xs.length ≤ 4096) (h2 : x.ce.fr.xs.length ≤ 4096) : (sgOf x).Ok w := by
  obtain ⟨hh, hr⟩ := W.goods.app h
  obtain ⟨hc, hs⟩ := W.goods.app hr
  obtain ⟨s1, s2⟩ := sl_of (hs.get 0 rfl)
  obtain ⟨f1, f2, f3, f4⟩ := ints_of (hc.get 5 rfl)
  exact ⟨hh.get 0 rfl, hh.get 1 rfl, hh.get 2 rfl, hh.get 3 rfl, hh.get 4 rfl, hh.get 5 rfl, hh.get 6 rfl, hh.get 7 rfl, hh.get 8 rfl, hc.get 0 rfl, hc.get 1 rfl, hc.get 2 rfl, hc.get 4 rfl, f1, f2, f3, h2, f4, s1, h1, s2⟩
theorem sgOf_arr (x : W.Sight) (t : Int) : ((Shn.flds ⟨x, t⟩).map W.Fld.val) = ((sgOf x).arr.push (.int .i64 t)).toList := by
  simp [Shn.flds, W.Sight.flds, W.Header.flds, W.Cert.flds, W.Fld.val, W.Lst.fld, sgOf, Sg.arr]
/-- The list of sights that are shown. -/
theorem shs_of {w : World} {l : W.Lst Shn} (h : (l.fld Shn.flds).good w.heap.size w) (hl1 : l.xs.length ≤ reachBytes) (hb : ∀ y ∈ l.xs, y.s.se.xs.length ≤ reachBytes ∧ y.s.ce.fr.xs.length ≤ reachBytes) :
    ShsAt w l.la (l.xs.map fun x => (sgOf x.s, x.t)) ∧ (l.xs.map fun x => (sgOf x.s, x.t)).length ≤ 140737488351232 ∧ ∀ x ∈ (l.xs.map fun x => (sgOf x.s, x.t)), x.1.sl.length ≤ 140737488351232 ∧ x.1.fr.length ≤ 140737488351232 ∧ (x.1.sl.length ≤ 4096 → x.1.fr.length ≤ 4096 → x.1.Ok w) ∧ InN x.2 := by
  obtain ⟨h1, h2, h3⟩ := W.Lst.held (sz := 17) Shn.len h
  unfold reachBytes at hl1 hb
  refine ⟨?_, by rw [List.length_map]; omega, ?_⟩
  · rcases h3 with e | ⟨rb, ro, e, hl, hz, hc⟩
    · exact .inl (by rw [e]; rfl)
    · refine .inr ⟨rb, ro, e, hz, fun i s hs k y hy => ?_⟩
      rw [List.getElem?_map] at hs
      obtain ⟨x, hx, rfl⟩ := Option.map_eq_some_iff.1 hs
      have hq := hc i x hx
      have hv := sgOf_arr x.s x.t
      rw [← Array.getElem?_toList, ← hv, List.getElem?_map] at hy
      obtain ⟨f, hf, rfl⟩ := Option.map_eq_some_iff.1 hy
      exact hq.get k hf
  · intro y hy
    obtain ⟨x, hx, rfl⟩ := List.mem_map.1 hy
    have q1 := hb x hx
    rcases h3 with e | ⟨rb, ro, e, hl, hz, hc⟩
    · rw [e] at hx; simp at hx
    · obtain ⟨i, hi, e2⟩ := List.getElem_of_mem hx
      have hg := W.CellsAt.goods (hc i x (by rw [List.getElem?_eq_getElem hi, e2]))
      obtain ⟨g1, g2⟩ := W.goods.app hg
      exact ⟨show x.s.se.xs.length ≤ _ by omega, show x.s.ce.fr.xs.length ≤ _ by omega, fun z1 z2 => sgOf_ok g1 z1 z2, g2.get 0 rfl⟩
end Go.Proofs.YtblnlfcfjbfhiaaGreat
