/- TrieNodes: of every node the program and the answer tell the same digest, and the same digest of the tree with that node above all. No condition. -/
import Derived.Test.YtfafomfidhkbeaaRows
import Derived.Test.YtfafomfidhkbeaaTrieTop
import Derived.WalkKit
import Derived.ProofKit
import Derived.OpenShut
import Derived.ShutString
import Derived.ChangeOld
import Derived.ChangeArms
import Derived.Below
import Derived.SizedLaws
namespace Go.Proofs.Ytfafomfidhkbeaa.trieNodes
open Go.ChangeShapes Go.WideShapes Go.ChangeAt Go.RowKit
set_option linter.unusedVariables false

theorem own : ownKnob Try.prog.godebug = none := by kernel_rfl
theorem laidOut : laidOutB Try.prog = true := by kernel_rfl
theorem Try.cellsN : Try.prog.cellsOf 25 = 6 := by kernel_rfl
theorem Try.cellsI : Try.prog.cellsOf 3 = 1 := by kernel_rfl
theorem Try.cellsS : Try.prog.cellsOf 9 = 1 := by kernel_rfl
theorem Try.cellsD : Try.prog.cellsOf 23 = 1 := by kernel_rfl

set_option maxHeartbeats 1600000 in
theorem walk (wd kind : Int) (key value : ByteArray) (pos l r : Int) (w : World) (hw : -9223372036854775808 ≤ wd ∧ wd ≤ 9223372036854775807) (hp : -9223372036854775808 ≤ pos ∧ pos ≤ 9223372036854775807) (hk' : key.size ≤ 140737488351232) (hv' : value.size ≤ 140737488351232) (hl : 0 ≤ l ∧ l ≤ 18446744073709551615) (hr : 0 ≤ r ∧ r ≤ 18446744073709551615) :
    Calls Try.prog 3 #[.int .i64 wd, .agg #[.int .i64 kind, .string key, .string value, .int .i64 pos, .int .u64 l, .int .u64 r]] w fun e w' => e = .returned (.bool true) ∧ Below w.heap.size w w' := by
  have hk : key.size ≤ maxLen := by unfold maxLen; omega
  have hv : value.size ≤ maxLen := by unfold maxLen; omega
  have kN := Blk.new w #[.int .i64 kind, .string key, .string value, .int .i64 pos, .int .u64 l, .int .u64 r] 25
  have hb0 : Below w.heap.size w (w.alloc (.cells #[.int .i64 kind, .string key, .string value, .int .i64 pos, .int .u64 l, .int .u64 r] 25)) := (Below.refl _ _).alloc (Nat.le_refl _) _
  by_cases hbig : (65536 : Int) < (key.size : Int) + (value.size : Int)
  · go_enter Try.func3, Try.ntmps3
    go_wp2
    go_ret
    exact ⟨rfl, hb0⟩
  · go_enter Try.func3, Try.ntmps3
    go_wp2_with fail
    refine (over_any wd kind key value pos l r _ hw hk hv hl hr).mono ?_
    rintro e w1 ⟨rfl, b1⟩
    have kN1 := kN.below b1 kN.lt
    have hb1 := hb0.trans (b1.mono hb0.size)
    have c0 := kN1.cell 0
    have c1 := kN1.cell 1
    have c2 := kN1.cell 2
    have c3 := kN1.cell 3
    have c4 := kN1.cell 4
    have c5 := kN1.cell 5
    simp only [List.getElem?_toArray, List.getElem?_cons_succ, List.getElem?_cons_zero] at c0 c1 c2 c3 c4 c5
    go_wp2_with fail
    refine (rover_any wd kind key value pos l r _ hw hp hk hv hl hr).mono ?_
    rintro e w2 ⟨rfl, b2⟩
    have kN2 := kN1.below b2 kN1.lt
    have hb2 := hb1.trans (b2.mono hb1.size)
    clear c0 c1 c2 c3 c4 c5
    have c0 := kN2.cell 0
    have c1 := kN2.cell 1
    have c2 := kN2.cell 2
    have c3 := kN2.cell 3
    have c4 := kN2.cell 4
    have c5 := kN2.cell 5
    simp only [List.getElem?_toArray, List.getElem?_cons_succ, List.getElem?_cons_zero] at c0 c1 c2 c3 c4 c5
    go_wp2_with fail
    refine (top_any wd kind key value pos l r _ hw hk hv hl hr).mono ?_
    rintro e w3 ⟨rfl, b3⟩
    have kN3 := kN2.below b3 kN2.lt
    have hb3 := hb2.trans (b3.mono hb2.size)
    clear c0 c1 c2 c3 c4 c5
    have c0 := kN3.cell 0
    have c1 := kN3.cell 1
    have c2 := kN3.cell 2
    have c3 := kN3.cell 3
    have c4 := kN3.cell 4
    have c5 := kN3.cell 5
    simp only [List.getElem?_toArray, List.getElem?_cons_succ, List.getElem?_cons_zero] at c0 c1 c2 c3 c4 c5
    go_wp2_with fail
    refine (rtop_any wd kind key value pos l r _ hw hp hk hv hl hr).mono ?_
    rintro e w4 ⟨rfl, b4⟩
    have hb4 := hb3.trans (b4.mono hb3.size)
    go_wp2
    go_ret
    exact ⟨by simp, hb4⟩

theorem bounds_i64 {a : Int} (h : (Lit.int .i64 a).wf = true) : -9223372036854775808 ≤ a ∧ a ≤ 9223372036854775807 := by
  simpa [Lit.wf, IntKind.min, IntKind.max, IntKind.signed, IntKind.bits] using h
theorem bounds_u64 {a : Int} (h : (Lit.int .u64 a).wf = true) : 0 ≤ a ∧ a ≤ 18446744073709551615 := by
  simpa [Lit.wf, IntKind.min, IntKind.max, IntKind.signed, IntKind.bits] using h

theorem six (cs : Array Value) (h : cs.size = 6) : ∃ a b c d e f, cs = #[a, b, c, d, e, f] := by
  obtain ⟨l⟩ := cs
  match l, h with
  | [a, b, c, d, e, f], _ => exact ⟨a, b, c, d, e, f, rfl⟩

theorem sixL {α : Type} (l : List α) (h : l.length = 6) : ∃ a b c d e f, l = [a, b, c, d, e, f] := by
  match l, h with
  | [a, b, c, d, e, f], _ => exact ⟨a, b, c, d, e, f, rfl⟩

set_option maxRecDepth 100000 in
set_option maxHeartbeats 1000000 in
theorem lifted (os : Os) (started : os.Started) (H : Type) (enc : TypeId × Value → H) :
    ReturnsInHanded {} Try.checked os 3 .any (Rows.trieNodesSpec.pre6 enc Try.prog Try.f3 Rows.trieNodesRow.domain false) (Rows.trieNodesSpec.post enc Try.prog Try.f3 false true false false) := by
  refine returnsInHanded_of_change_sized (C := Try.checked) own started (by kernel_rfl) Try.func3
    (ChangeSpec.witness6 (enc := enc) (C := Try.checked) false ⟨#[], #[.int .i64 0, .agg #[.int .i64 0, .string ByteArray.empty, .string ByteArray.empty, .int .i64 0, .int .u64 0, .int .u64 0]], []⟩ 8 (by kernel_rfl) (by kernel_rfl) (by kernel_rfl) (by kernel_rfl)) ?_
  intro W base args ds gs before hval0 hW hcnd hsz0 _
  have hval : ∀ (j : Nat) t v, Try.f3.params[j]? = some t → args[j]? = some v → Value.okWide Try.prog W .any base t v := hval0
  have hsz : (DataW.weightsEach Try.prog (Try.f3.params.toList ++ Rows.trieNodesSpec.plain.varTypes Try.prog) (ds ++ gs)).all (· ≤ reachBytes) = true := hsz0
  have hW' := hW
  obtain ⟨p, q, hA0, hV, rfl, hfz, hnd⟩ := hW
  have hA : DataW.TrodAll enc Try.prog W 0 (fun _ => true) true Try.f3.params.toList args.toList ds p := hA0
  rw [Try.params3] at hA hval hsz
  obtain ⟨v0, vs0, d0, ds0, p0, q0, hargs, rfl, rfl, h0, r0⟩ := trodAll_cons hA
  obtain ⟨v1, vs1, d1, ds1, p1, q1, rfl, rfl, rfl, h1, r1⟩ := trodAll_cons r0
  obtain ⟨rfl, rfl, rfl⟩ := trodAll_nil r1
  obtain rfl : args = #[v0, v1] := by cases args; simp_all
  obtain ⟨rfl, rfl⟩ := trodVars_none hV
  obtain ⟨a0, rfl, rfl, rfl, w0⟩ := open_int Try.underlying3 (hval 0 3 v0 rfl rfl) h0
  obtain ⟨cs, rfl, hcs⟩ := okWide_struct Try.underlying25 (hval 1 25 v1 rfl rfl)
  rw [Try.cellsN] at hcs
  obtain ⟨x0, x1, x2, x3, x4, x5, rfl⟩ := six cs hcs
  have k1 := h1
  have lt1 : ∀ x ∈ p1, x.block < W.heap.size := by obtain ⟨m, hm⟩ := k1; exact DataW.trod_lt m _ _ _ hm
  obtain ⟨fuel, hf⟩ := h1
  obtain ⟨xs, m, _, hx, _, hlen, hfs⟩ := DataW.trod_struct Try.underlying25 hf
  obtain ⟨y0, y1, y2, y3, y4, y5, rfl⟩ := sixL xs (by simpa using hlen)
  have g0 := hfs 0 _ rfl
  have g1 := hfs 1 _ rfl
  have g2 := hfs 2 _ rfl
  have g3 := hfs 3 _ rfl
  have g4 := hfs 4 _ rfl
  have g5 := hfs 5 _ rfl
  simp [Try.cellsI, Value.cells] at g0
  simp [Try.cellsS, Value.cells] at g1
  simp [Try.cellsS, Value.cells] at g2
  simp [Try.cellsI, Value.cells] at g3
  simp [Try.cellsD, Value.cells] at g4
  simp [Try.cellsD, Value.cells] at g5
  obtain ⟨n0, e0, rfl, z0⟩ := DataW.trod_int Try.underlying3 g0
  obtain ⟨n1, e1, rfl, z1⟩ := DataW.trod_string Try.underlying9 g1
  obtain ⟨n2, e2, rfl, z2⟩ := DataW.trod_string Try.underlying9 g2
  obtain ⟨n3, e3, rfl, z3⟩ := DataW.trod_int Try.underlying3 g3
  obtain ⟨n4, e4, rfl, z4⟩ := DataW.trod_int Try.underlying23 g4
  obtain ⟨n5, e5, rfl, z5⟩ := DataW.trod_int Try.underlying23 g5
  simp only [List.cons.injEq, and_true] at e0 e1 e2 e3 e4 e5
  subst e0 e1 e2 e3 e4 e5
  simp only [List.map_cons, List.map_nil, List.flatMap_cons, List.flatMap_nil, List.append_nil, Prod.mk.injEq] at hx
  obtain ⟨rfl, rfl⟩ := hx
  have hs1 : n1.size ≤ 140737488351232 ∧ n2.size ≤ 140737488351232 := by
    have h := hsz
    simp [DataW.weightsEach, DataW.weights, Try.underlying25, reachBytes] at h
    exact ⟨of_decide_eq_true h.1, of_decide_eq_true h.2⟩
  clear hA0 hval0 g0 g1 g2 g3 g4 g5 hfs hlen
  refine (walk a0 n0 n1 n2 n3 n4 n5 W (bounds_i64 w0) (bounds_i64 z3) hs1.1 hs1.2 (bounds_u64 z4) (bounds_u64 z5)).mono fun e W' ⟨he, bel⟩ => ?_
  subst he
  exact ⟨_, rfl, _, _, _, [], _, [], hW', trodAll_mk1 (shut_bool Try.underlying4 _), (trodAll_cons_mk (shut_int Try.underlying3 w0) (trodAll_cons_mk (Below.trod laidOut (by kernel_rfl) (of_decide_eq_true (by kernel_rfl)) k1 bel lt1) trodAll_mk0)), rfl, bel.frame _, fun h => by cases h⟩

theorem over : Rows.trieNodesRow.holds Try.pinned (OpenSpec.ofChange Rows.trieNodesSpec) :=
  OpenClaim.holds_of_wide 3 Try.f3 rfl rfl rfl rfl rfl rfl rfl ⟨rfl, rfl, rfl, rfl, rfl⟩ rfl rfl rfl rfl rfl (by kernel_rfl) Try.func3 (by kernel_rfl)
    (of_decide_eq_true (by kernel_rfl)) (by unfold Func.isWrapper; first | (rw [if_pos (by decide +kernel)]; kernel_rfl) | (rw [if_neg (by decide +kernel)]; exact ⟨rfl, rfl⟩))
    (fun os started H enc _ => lifted os started H enc)

theorem proved : Rows.TrieNodesSaid :=
  over
end Go.Proofs.Ytfafomfidhkbeaa.trieNodes
namespace Go.Proofs.Ytfafomfidhkbeaa

/-- The statement. -/
theorem trieNodes_holds : Rows.TrieNodesSaid := trieNodes.proved
end Go.Proofs.Ytfafomfidhkbeaa
