/- TidySees: whatever the code, the law answers true; its argument reads as before. Conditions: the table of shapes starts as the program's text lays it (the card ties it). -/
import Derived.Test.YtemjajljpoaioaaDoorRows
import Derived.Test.YtemjajljpoaioaaDoorCards
import Derived.Test.YtemjajljpoaioaaDoorTie
import Derived.Test.YtemjajljpoaioaaDoorYTj
import Derived.SizedLaws
import Derived.ProofKit
import Derived.OpenShut
import Derived.ChangeOld
import Derived.ChangeArms
import Derived.LaidMore
import Derived.Stop.Joined
import Derived.SevenTiedAt
import Derived.Deep.Slices
namespace Go.Proofs.YtemjajljpoaioaaDoor.tidySees
open Go.ChangeShapes Go.WideShapes Go.ChangeAt Go.RowKit
set_option linter.unusedVariables false
set_option linter.unusedSimpArgs false
theorem i64_wf {a : Int} (h : (Lit.int .i64 a).wf = true) : -9223372036854775808 ≤ a ∧ a ≤ 9223372036854775807 := by
 simpa [Lit.wf, IntKind.min, IntKind.max, IntKind.signed, IntKind.bits] using h
theorem addr_add (b off i : Nat) : (⟨b, off, none⟩ : Addr).add i = ⟨b, off + i, none⟩ := by unfold Addr.add; split <;> simp_all
theorem goods_nil (base : Nat) (w : World) : goods base w [] := fun f hf => by simp at hf
theorem goods_cons {base : Nat} {w : World} {f : Fld} {fs : List Fld} (h : f.good base w) (g : goods base w fs) : goods base w (f :: fs) := fun x hx => by
 rcases List.mem_cons.1 hx with rfl | hx
 ·exact h
 ·exact g x hx
theorem list2 {α : Type} {l : List α} (h : l.length = 2) : ∃ a b, l = [a, b] := by
 match l, h with
 | [a, b], _ => exact ⟨a, b, rfl⟩
theorem list3 {α : Type} {l : List α} (h : l.length = 3) : ∃ a b c, l = [a, b, c] := by
 match l, h with
 | [a, b, c], _ => exact ⟨a, b, c, rfl⟩
theorem list5 {α : Type} {l : List α} (h : l.length = 5) : ∃ a b c d e, l = [a, b, c, d, e] := by
 match l, h with
 | [a, b, c, d, e], _ => exact ⟨a, b, c, d, e, rfl⟩
theorem str_eta (s : ByteArray) : s = ⟨(s.data.toList).toArray⟩ := by
 cases s; simp
theorem Tryd.cellsI : Tryd.prog.cellsOf 3 = 1 := by kernel_rfl
theorem Tryd.cellsB : Tryd.prog.cellsOf 4 = 1 := by kernel_rfl
theorem Tryd.cellsS : Tryd.prog.cellsOf 9 = 1 := by kernel_rfl
theorem Tryd.cellsN : Tryd.prog.cellsOf 31 = 3 := by kernel_rfl
theorem Tryd.cellsP : Tryd.prog.cellsOf 34 = 5 := by kernel_rfl
theorem Tryd.cellsC : Tryd.prog.cellsOf 25 = 2 := by kernel_rfl
theorem Tryd.cellsNs : Tryd.prog.cellsOf 32 = 1 := by kernel_rfl
theorem Tryd.cellsPs : Tryd.prog.cellsOf 22 = 1 := by kernel_rfl
theorem Tryd.cellsSs : Tryd.prog.cellsOf 23 = 1 := by kernel_rfl
theorem Tryd.cellsSh : Tryd.prog.cellsOf 64 = 3 := by kernel_rfl
def Opened {H : Type} (enc : TypeId × Value → H) (W : World) (sp : Nat → Bool) {α : Type} (flds : α → List Fld) (T : TypeId) : Prop :=
 ∀ (fuel : Nat) (cs : List Value) (x : DataW H × List MemPlace), DataW.trod enc Tryd.prog W 0 sp true fuel T cs = some x →
  ∃ y : α, cs = (flds y).map Fld.val ∧ goods W.heap.size W (flds y)
theorem open_lst {H : Type} {enc : TypeId × Value → H} {W : World} {sp : Nat → Bool} {α : Type} [Inhabited α] {flds : α → List Fld} {sz : Nat} (hz : ∀ x, (flds x).length = sz) (hpos : 0 < sz) {t e : TypeId} (ht : Tryd.prog.underlying t = some (.slice e)) (ce : Tryd.prog.cellsOf e = sz)
  (h1 : Opened enc W sp flds e) (fuel : Nat) (cs : List Value) (x : DataW H × List MemPlace) (h : DataW.trod enc Tryd.prog W 0 sp true fuel t cs = some x) :
  ∃ l : Lst α, cs = [.slice l.la l.xs.length l.lc] ∧ (l.fld flds).good W.heap.size W := by
 rcases Deep.open_slice ht h with ⟨rfl, rfl⟩ | ⟨a, len, cap, m, n, D, Pl, rfl, hb, hl, hm, hmm, rfl, hx⟩
 ·exact ⟨⟨none, 0, []⟩, rfl, Lst.good (sz := sz) hz ⟨Nat.le_refl _, Nat.zero_le _, .inl rfl⟩⟩
 ·have hlm : len ≤ m := by rw [hmm]; split <;> omega
  have each : ∀ i, i < len → ∃ y : α, (∀ j f, (flds y)[j]? = some f → W.cell? ((a.add (i * sz)).add j) = some f.val) ∧ goods W.heap.size W (flds y) := by
   intro i hi
   obtain ⟨cs', h2, h3⟩ := hx i (by omega)
   rw [ce] at h2
   obtain ⟨_, hlen, hcell⟩ := World.cells?_some h2
   obtain ⟨y, e1, g⟩ := h1 _ _ _ h3
   refine ⟨y, fun j f hj => ?_, g⟩
   have hj' : j < sz := by rw [← hz y]; exact (List.getElem?_eq_some_iff.1 hj).1
   rw [hcell j hj', e1, List.getElem?_map, hj]; rfl
  obtain ⟨q, hq⟩ := Deep.choose_lt each
  refine ⟨⟨some a, cap, (List.range len).map q⟩, by simp, Lst.good (sz := sz) hz ⟨by simpa using hl, hm, ?_⟩⟩
  by_cases h0 : len = 0
  ·left; simp [h0]
  ·right
   obtain ⟨b, off, spot⟩ := a
   have hp0 : 0 < (flds (q 0)).length := by rw [hz]; exact hpos
   have hy := (hq 0 (by omega)).1 0 _ (List.getElem?_eq_getElem hp0)
   have hspot : spot = none := by simpa [Addr.add] using World.cell?_spot hy
   subst hspot
   have hlt := World.block_lt_of_cell? W _ hy
   have hlt' : b < W.heap.size := by simpa [Addr.add] using hlt
   refine ⟨b, off, rfl, hlt', hlt', fun i x hx => ?_⟩
   have hi : i < len := by
    have := (List.getElem?_eq_some_iff.1 hx).1
    simpa using this
   have hxq : x = q i := by
    rw [List.getElem?_map, List.getElem?_range hi] at hx
    simpa using hx.symm
   subst hxq
   obtain ⟨h2, h3⟩ := hq i hi
   refine CellsAt.mk (fun j f hj => ?_) h3
   have := h2 j f hj
   rw [addr_add, addr_add] at this
   exact this
theorem open_ins {H : Type} (enc : TypeId × Value → H) (W : World) (sp : Nat → Bool) : Opened enc W sp Ins.flds 31 := by
 intro fuel cs x h
 obtain ⟨ys, m, _, _, hc, hlen, hfs⟩ := DataW.trod_struct Tryd.underlying31 h
 rw [Tryd.cellsN] at hc
 obtain ⟨z0, z1, z2, rfl⟩ := list3 hc
 obtain ⟨y0, y1, y2, rfl⟩ := list3 (l := ys) (by simpa using hlen)
 have g0 := hfs 0 _ rfl
 simp [Tryd.cellsI] at g0
 have g1 := hfs 1 _ rfl
 simp [Tryd.cellsI] at g1
 have g2 := hfs 2 _ rfl
 simp [Tryd.cellsI] at g2
 obtain ⟨n0, e0, _, w0⟩ := DataW.trod_int Tryd.underlying3 g0
 obtain ⟨n1, e1, _, w1⟩ := DataW.trod_int Tryd.underlying3 g1
 obtain ⟨n2, e2, _, w2⟩ := DataW.trod_int Tryd.underlying3 g2
 simp only [List.cons.injEq, and_true] at e0 e1 e2
 subst e0 e1 e2
 exact ⟨⟨n0, n1, n2⟩, rfl, goods_cons (i64_wf w0) (goods_cons (i64_wf w1) (goods_cons (i64_wf w2) (goods_nil _ _)))⟩
theorem open_name {H : Type} (enc : TypeId × Value → H) (W : World) (sp : Nat → Bool) : Opened enc W sp nameFlds 9 := by
 intro fuel cs x h
 obtain ⟨n0, e0, _, w0⟩ := DataW.trod_string Tryd.underlying9 h
 subst e0
 exact ⟨n0.data.toList, by simp [nameFlds, Fld.val], goods_cons trivial (goods_nil _ _)⟩
theorem open_pc {H : Type} (enc : TypeId × Value → H) (W : World) (sp : Nat → Bool) : Opened enc W sp Pc.flds 34 := by
 intro fuel cs x h
 obtain ⟨ys, m, _, _, hc, hlen, hfs⟩ := DataW.trod_struct Tryd.underlying34 h
 rw [Tryd.cellsP] at hc
 obtain ⟨z0, z1, z2, z3, z4, rfl⟩ := list5 hc
 obtain ⟨y0, y1, y2, y3, y4, rfl⟩ := list5 (l := ys) (by simpa using hlen)
 have g0 := hfs 0 _ rfl
 simp [Tryd.cellsS] at g0
 have g1 := hfs 1 _ rfl
 simp [Tryd.cellsB] at g1
 have g2 := hfs 2 _ rfl
 simp [Tryd.cellsI] at g2
 have g3 := hfs 3 _ rfl
 simp [Tryd.cellsI] at g3
 have g4 := hfs 4 _ rfl
 simp [Tryd.cellsNs] at g4
 obtain ⟨n0, e0, _, w0⟩ := DataW.trod_string Tryd.underlying9 g0
 obtain ⟨n1, e1, _⟩ := DataW.trod_bool Tryd.underlying4 g1
 obtain ⟨n2, e2, _, w2⟩ := DataW.trod_int Tryd.underlying3 g2
 obtain ⟨n3, e3, _, w3⟩ := DataW.trod_int Tryd.underlying3 g3
 obtain ⟨l, e4, gl⟩ := open_lst Ins.len (by omega) Tryd.underlying32 Tryd.cellsN (open_ins enc W sp) _ _ _ g4
 simp only [List.cons.injEq, and_true] at e0 e1 e2 e3 e4
 subst e0 e1 e2 e3 e4
 exact ⟨⟨n0.data.toList, n1, n2, n3, l⟩, by simp [Pc.flds, Fld.val, Lst.fld], goods_cons trivial (goods_cons trivial (goods_cons (i64_wf w2) (goods_cons (i64_wf w3) (goods_cons gl (goods_nil _ _)))))⟩
theorem open_cd {H : Type} (enc : TypeId × Value → H) (W : World) (sp : Nat → Bool) : Opened enc W sp Cd.flds 25 := by
 intro fuel cs x h
 obtain ⟨ys, m, _, _, hc, hlen, hfs⟩ := DataW.trod_struct Tryd.underlying25 h
 rw [Tryd.cellsC] at hc
 obtain ⟨z0, z1, rfl⟩ := list2 hc
 obtain ⟨y0, y1, rfl⟩ := list2 (l := ys) (by simpa using hlen)
 have g0 := hfs 0 _ rfl
 simp [Tryd.cellsPs] at g0
 have g1 := hfs 1 _ rfl
 simp [Tryd.cellsSs] at g1
 obtain ⟨l0, e0, gl0⟩ := open_lst Pc.len (by omega) Tryd.underlying22 Tryd.cellsP (open_pc enc W sp) _ _ _ g0
 obtain ⟨l1, e1, gl1⟩ := open_lst nameFlds_len (by omega) Tryd.underlying23 Tryd.cellsS (open_name enc W sp) _ _ _ g1
 simp only [List.cons.injEq, and_true] at e0 e1
 subst e0 e1
 exact ⟨⟨l0, l1⟩, by simp [Cd.flds, Fld.val, Lst.fld], goods_cons gl0 (goods_cons gl1 (goods_nil _ _))⟩
theorem own : ownKnob Tryd.prog.godebug = none := by kernel_rfl
theorem gShapes : Tryd.prog.globalNamed "assize/code.shapes" = some 0 := by kernel_rfl
theorem tShapes : (Tryd.prog.globals[0]?).map (·.type) = some 65 := by kernel_rfl
theorem laidOut : laidOutB Tryd.prog = true := by kernel_rfl
def laid1 {H : Type} : List (String × DataW H) := [("assize/code.shapes", Rows.laid_assize_code_shapes)]
theorem laid_rows {H : Type} : (Rows.laid_assize_code_shapes : DataW H) = .agg (shp.map fun r => .agg [.lit (.int .i64 r.1), .lit (.int .i64 r.2.1), .lit (.int .i64 r.2.2)]) := rfl
theorem of_laid {W : World} (h : laidMetH Tryd.prog laid1 W) : Tab W := by
 rw [MakeChecks.laidMetH_plain _ _ _ (by kernel_rfl)] at h
 obtain ⟨ps, ⟨g0, t0, cs0, f0, p0, q0, hg0, ht0, hv0, hd0, _, _⟩, _, _⟩ := h
 obtain rfl := Option.some.inj (gShapes.symm.trans hg0)
 obtain rfl := Option.some.inj (tShapes.symm.trans ht0)
 obtain ⟨xs, m1, rfl, hx1, hlen, hn, hel⟩ := DataW.trod_array Tryd.underlying65 hd0
 have hcell := World.var?_cell hg0 hv0
 rw [laid_rows] at hx1
 simp only [Prod.mk.injEq, DataW.agg.injEq] at hx1
 have key : ∀ n, n < 31 → W.cell? ⟨0, n * 3, none⟩ = some (.int .i64 (tkC n)) ∧ W.cell? ⟨0, n * 3 + 1, none⟩ = some (.int .i64 (lv n)) ∧ W.cell? ⟨0, n * 3 + 2, none⟩ = some (.int .i64 (ka n)) := by
  intro n hn31
  have h1 := hel n hn31
  rw [Tryd.cellsSh] at h1
  obtain ⟨x, hx⟩ : ∃ x, xs[n]? = some x := ⟨_, List.getElem?_eq_getElem (by omega)⟩
  rw [hx] at h1
  obtain ⟨ys, m2, _, hy, hc, hl2, hfs⟩ := DataW.trod_struct Tryd.underlying64 h1
  rw [Tryd.cellsSh] at hc
  obtain ⟨z0, z1, z2, hz⟩ := list3 hc
  obtain ⟨y0, y1, y2, rfl⟩ := list3 (l := ys) (by simpa using hl2)
  rw [hz] at hfs
  have g0 := hfs 0 _ rfl
  simp [Tryd.cellsI] at g0
  have g1 := hfs 1 _ rfl
  simp [Tryd.cellsI] at g1
  have g2 := hfs 2 _ rfl
  simp [Tryd.cellsI] at g2
  obtain ⟨n0, e0, d0, _⟩ := DataW.trod_int Tryd.underlying3 g0
  obtain ⟨n1, e1, d1, _⟩ := DataW.trod_int Tryd.underlying3 g1
  obtain ⟨n2, e2, d2, _⟩ := DataW.trod_int Tryd.underlying3 g2
  simp only [List.cons.injEq, and_true] at e0 e1 e2
  subst e0 e1 e2
  have hs : n < shp.length := by simp [shp]; omega
  have h3 := congrArg (fun l => l[n]?) hx1.1
  simp only [List.getElem?_map, hx, List.getElem?_eq_getElem hs, Option.map_some, Option.some.injEq] at h3
  rw [hy] at h3
  simp only [List.map_cons, List.map_nil, d0, d1, d2, DataW.agg.injEq, List.cons.injEq, DataW.lit.injEq, Lit.int.injEq, true_and, and_true] at h3
  obtain ⟨f0, f1, f2⟩ := h3
  have k0 : tkC n = n0 := by simp only [tkC, List.getD_eq_getElem?_getD, List.getElem?_eq_getElem hs, Option.getD_some]; exact f0
  have k1 : lv n = n1 := by simp only [lv, List.getD_eq_getElem?_getD, List.getElem?_eq_getElem hs, Option.getD_some]; exact f1
  have k2 : ka n = n2 := by simp only [ka, List.getD_eq_getElem?_getD, List.getElem?_eq_getElem hs, Option.getD_some]; exact f2
  have at_ : ∀ j, j < 3 → cs0[n * 3 + j]? = [Value.int .i64 n0, .int .i64 n1, .int .i64 n2][j]? := by
   intro j hj
   rw [← hz, List.getElem?_take_of_lt hj, List.getElem?_drop, Array.getElem?_toList]
  have a0 := at_ 0 (by omega)
  have a1 := at_ 1 (by omega)
  have a2 := at_ 2 (by omega)
  simp only [List.getElem?_cons_succ, List.getElem?_cons_zero, Nat.add_zero] at a0 a1 a2
  rw [k0, k1, k2, hcell, hcell, hcell]
  exact ⟨a0, a1, a2⟩
 refine ⟨?_, key⟩
 have := World.block_lt_of_cell? W _ (key 0 (by omega)).1
 simpa using this
theorem len_datum {H : Type} {enc : TypeId × Value → H} {W : World} {sp : Nat → Bool} {t e : TypeId} {fuel n lc : Nat} {la : Option Addr} {x : DataW H × List MemPlace} (ht : Tryd.prog.underlying t = some (.slice e)) (h : DataW.trod enc Tryd.prog W 0 sp true fuel t [.slice la n lc] = some x) : n = 0 ∨ ∃ el sp, x.1 = .slice el sp ∧ el.length = n := by
 rcases Deep.open_slice ht h with ⟨q, _⟩ | ⟨a, len, cap, m, n', D, Pl, q, _, _, _, _, rfl, _⟩
 ·simp only [List.cons.injEq, Value.slice.injEq, and_true] at q
  exact .inl q.2.1
 ·simp only [List.cons.injEq, Value.slice.injEq, and_true] at q
  exact .inr ⟨_, _, rfl, by simp [q.2.1]⟩
theorem len_small {H : Type} {t e : TypeId} {n : Nat} {d : DataW H} (ht : Tryd.prog.underlying t = some (.slice e)) (hb : 1 ≤ Tryd.prog.bytesOf e) (h : n = 0 ∨ ∃ el sp, d = .slice el sp ∧ el.length = n) (hm : ∀ k ∈ d.weights Tryd.prog t, k ≤ reachBytes) : n ≤ reachBytes := by
 rcases h with rfl | ⟨el, sp, rfl, rfl⟩
 ·exact Nat.zero_le _
 ·have h1 := hm ((el.length + sp.length) * Tryd.prog.bytesOf e) (by simp [DataW.weights, ht])
  have h2 : (el.length + sp.length) * 1 ≤ (el.length + sp.length) * Tryd.prog.bytesOf e := Nat.mul_le_mul_left _ hb
  omega
theorem code_small {H : Type} {enc : TypeId × Value → H} {W : World} {sp : Nat → Bool} {fuel : Nat} {c : Cd} {x : DataW H × List MemPlace} (h : DataW.trod enc Tryd.prog W 0 sp true fuel 25 [.slice c.ps.la c.ps.xs.length c.ps.lc, .slice c.ns.la c.ns.xs.length c.ns.lc] = some x) (hm : ∀ k ∈ x.1.weights Tryd.prog 25, k ≤ reachBytes) : c.ps.xs.length + c.ns.xs.length ≤ 9223372036854775807 := by
 obtain ⟨ys, m, _, hy, hc, hlen, hfs⟩ := DataW.trod_struct Tryd.underlying25 h
 obtain ⟨y0, y1, rfl⟩ := list2 (l := ys) (by simpa using hlen)
 have g0 := hfs 0 _ rfl
 simp [Tryd.cellsPs] at g0
 have g1 := hfs 1 _ rfl
 simp [Tryd.cellsSs, Tryd.cellsPs] at g1
 rw [hy] at hm
 have b0 := len_small Tryd.underlying22 (of_decide_eq_true (by kernel_rfl)) (len_datum Tryd.underlying22 g0) fun k hk => hm k (by
  simp only [DataW.weights, Tryd.underlying25]
  exact DataW.weights_mem_each (j := 0) (t := 22) rfl rfl k hk)
 have b1 := len_small Tryd.underlying23 (of_decide_eq_true (by kernel_rfl)) (len_datum Tryd.underlying23 g1) fun k hk => hm k (by
  simp only [DataW.weights, Tryd.underlying25]
  exact DataW.weights_mem_each (j := 1) (t := 23) rfl rfl k hk)
 unfold reachBytes at b0 b1
 omega
theorem door_met (os : Os) (args : Array Value) : laidMetH Tryd.prog laid1 ((World.doorLaid Tryd.prog 400 os).forCall (fun _ _ => 0) ⟨#[], args, []⟩).memory :=
 laidMetH_of_parts3 (fuel := 8) (laidMet_of_run' 8 (by kernel_rfl) (by kernel_rfl)) (by kernel_rfl) (by kernel_rfl)
set_option maxRecDepth 100000 in
theorem lifted (os : Os) (started : os.Started) (H : Type) (enc : TypeId × Value → H) :
  ReturnsInHanded {} Tryd.checked os 3 .any (fun w args => (Rows.tidySeesSpec.pre enc Tryd.prog Tryd.f3 [] false w args ∧ laidMetH Tryd.prog laid1 w) ∧ sizedMet enc Tryd.prog Tryd.f3 (OpenSpec.ofChange Rows.tidySeesSpec) false w args)
   (Rows.tidySeesSpec.post enc Tryd.prog Tryd.f3 false true false false) := by
 refine returnsInHanded_of_change_and (C := Tryd.checked) (X := fun w _ => laidMetH Tryd.prog laid1 w) (fun _ _ _ hh h => h.of_heap hh) own started (by kernel_rfl) Tryd.func3
  (ChangeSpec.witness_shaped (enc := enc) (C := Tryd.checked) (os := os) (X := fun w _ => laidMetH Tryd.prog laid1 w) false (World.doorLaid Tryd.prog 400 os) #[.agg #[.slice none 0 0, .slice none 0 0]] 8 rfl (World.shaped_of_RefB (by kernel_rfl) (by kernel_rfl)) (by kernel_rfl) (by kernel_rfl) (by kernel_rfl) (door_met os _)) ?_
 intro W base args ds gs before hval0 hW _ hsz0 hL _
 have hsz : (DataW.weightsEach Tryd.prog (Tryd.f3.params.toList ++ Rows.tidySeesSpec.plain.varTypes Tryd.prog) (ds ++ gs)).all (· ≤ reachBytes) = true := hsz0
 have hval : ∀ (j : Nat) t v, Tryd.f3.params[j]? = some t → args[j]? = some v → Value.okWide Tryd.prog W .any base t v := hval0
 have hW' := hW
 obtain ⟨p, q, hA0, hV, rfl, hfz, hnd⟩ := hW
 have hA : DataW.TrodAll enc Tryd.prog W 0 (fun _ => true) true Tryd.f3.params.toList args.toList ds p := hA0
 rw [Tryd.params3] at hA hval hsz
 obtain ⟨v0, vs0, d0, ds0, p0, q0, hargs, rfl, rfl, h0, r0⟩ := trodAll_cons hA
 obtain ⟨rfl, rfl, rfl⟩ := trodAll_nil r0
 obtain rfl : args = #[v0] := by cases args; simp_all
 obtain ⟨rfl, rfl⟩ := trodVars_none hV
 have k0 := h0
 have lt0 : ∀ x ∈ p0, x.block < W.heap.size := by obtain ⟨m, hm⟩ := k0; exact DataW.trod_lt m _ _ _ hm
 obtain ⟨fu0, hf0⟩ := h0
 obtain ⟨cs0, rfl, hcs0⟩ := okWide_struct Tryd.underlying25 (hval 0 25 v0 rfl rfl)
 have g0 : DataW.trod enc Tryd.prog W 0 (fun _ => true) true fu0 25 cs0.toList = some (d0, p0) := hf0
 obtain ⟨c, e0, gd0⟩ := open_cd enc W (fun _ => true) _ _ _ g0
 have ea0 : cs0 = #[.slice c.ps.la c.ps.xs.length c.ps.lc, .slice c.ns.la c.ns.xs.length c.ns.lc] := by
  apply Array.ext'
  rw [e0]
  simp [Cd.flds, Fld.val, Lst.fld]
 subst ea0
 have T := of_laid hL
 have hm : ∀ n ∈ d0.weights Tryd.prog 25, n ≤ reachBytes := fun n hn => by
  have := List.all_eq_true.1 hsz n (DataW.weights_mem_each (j := 0) rfl rfl n hn)
  simpa using this
 have hb := code_small g0 hm
 have P : PsAt W.heap.size W c := Lst.held Pc.len (gd0.get 0 rfl)
 have NH : c.ns.Held nameFlds 1 W.heap.size W := Lst.held nameFlds_len (gd0.get 1 rfl)
 clear hA0 hval0 hsz hsz0
 refine (sees_m T P NH hb).mono fun e W' ⟨he, bel⟩ => ?_
 subst he
 exact ⟨_, rfl, _, _, _, [], _, [], hW', trodAll_mk1 (shut_bool Tryd.underlying4 _), (trodAll_cons_mk (Below.trod laidOut (by kernel_rfl) (of_decide_eq_true (by kernel_rfl)) k0 bel lt0) trodAll_mk0), rfl, bel.frame _, fun h => by cases h⟩
theorem over : Rows.tidySeesRow.holds Tryd.pinned (OpenSpec.ofChange Rows.tidySeesSpec) :=
 OpenClaim.holds_of_wide 3 Tryd.f3 rfl rfl rfl rfl rfl rfl rfl ⟨rfl, rfl, rfl, rfl, rfl⟩ rfl rfl rfl rfl rfl (by kernel_rfl) Tryd.func3 (by kernel_rfl)
  (of_decide_eq_true (by kernel_rfl)) (by unfold Func.isWrapper; first | (rw [if_pos (by decide +kernel)]; kernel_rfl) | (rw [if_neg (by decide +kernel)]; exact ⟨rfl, rfl⟩))
  (fun os started H enc _ => lifted os started H enc)
theorem card : Rows.TidySeesCardSaid :=
 Claim7.holds_tied_plain_at .later [] [.data] true (true, "ba59f14939c0769f6306e0c678ce36041e8fc1b7be48fd25e24e31f85a2b2480") false
  over (fun _ h => by cases h) (by kernel_rfl) (fun _ h => by cases h) tidySees_row_tie rfl ⟨rfl, rfl⟩ (by kernel_rfl) rfl
  (fun f fn hf hfn => by
   obtain rfl : f = 3 := Option.some.inj ((show Tryd.prog.funcNamed "assize/assizelaw.TidySees" = some 3 by kernel_rfl).symm.trans hf) |>.symm
   obtain rfl : fn = Tryd.f3 := (Option.some.inj (Tryd.func3.symm.trans hfn)).symm
   exact ⟨by kernel_rfl, fun j t ht => by
    rw [Tryd.params3] at ht
    have hm : t ∈ [25] := by simpa using Array.mem_of_getElem? ht
    have hall : ([25].all fun u => !Tryd.prog.wantsStandIn u) = true := by kernel_rfl
    exact (show Tryd.prog.wantsStandIn t = false by simpa using List.all_eq_true.1 hall t hm)⟩)
  (by kernel_rfl)
end Go.Proofs.YtemjajljpoaioaaDoor.tidySees
namespace Go.Proofs.YtemjajljpoaioaaDoor
theorem tidySees_holds : Rows.TidySeesCardSaid := tidySees.card
end Go.Proofs.YtemjajljpoaioaaDoor
