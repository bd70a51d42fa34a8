import Derived.Test.YtemjajljpoaioaaDoorM37
import Derived.Test.YtemjajljpoaioaaDoorCTable
namespace Go.Proofs.YtemjajljpoaioaaDoor
open Go.RowKit
set_option linter.unusedVariables false
set_option linter.unusedSimpArgs false
set_option maxRecDepth 20000
set_option maxHeartbeats 8000000
def boolN : Value → Nat
 | .bool true => 1
 | _ => 0
def findReg (n : Nat) : Code → Option Code
 | .region m ops d => if m = n then some (.region m ops d) else none
 | .seq a b => match findReg n a with
  | some c => some c
  | none => findReg n b
 | .block _ c => findReg n c
 | .scope c => findReg n c
 | .loop c => findReg n c
 | .cond _ a b => match findReg n a with
  | some c => some c
  | none => findReg n b
 | _ => none
def findRest (n : Nat) : Code → Option Code
 | .seq a b => match a with
  | .region m _ _ => if m = n then some b else findRest n b
  | a => match findRest n a with
   | some c => some c
   | none => findRest n b
 | .block _ c => findRest n c
 | .scope c => findRest n c
 | .loop c => findRest n c
 | .cond _ a b => match findRest n a with
  | some c => some c
  | none => findRest n b
 | _ => none
noncomputable def reg (n : Nat) : Code := ((Tryd.f8.body.bind (findReg n)).getD .skip)
noncomputable def rest (n : Nat) : Code := ((Tryd.f8.body.bind (findRest n)).getD .skip)
theorem own_get {w : World} {B n : Nat} {va : Option Addr} {vc : Nat} {l : List Value} {e : TypeId} {j : Nat} {x : Value} (h : w.ownsRow B e 1 (.slice va n vc) n l) (hj : l[j]? = some x) : ∃ g, va = some ⟨g, 0, none⟩ ∧ w.cell? ⟨g, j, none⟩ = some x ∧ g < w.heap.size ∧ B ≤ g := by
 obtain ⟨h1, ⟨e0, h0⟩ | ⟨g, cap, cur, e1, e2, e3, e4, e5, e6, e7⟩⟩ := h
 ·subst h0
  have : l = [] := List.eq_nil_of_length_eq_zero (by simpa using h1)
  subst this
  simp at hj
 simp only [Value.slice.injEq, true_and] at e1
 obtain ⟨rfl, rfl⟩ := e1
 refine ⟨g, rfl, ?_, (Array.getElem?_eq_some_iff.1 e3).1, e2⟩
 have : w.cell? ⟨g, j, none⟩ = cur[j]? := by simp [World.cell?, e3]
 rw [this, ← Array.getElem?_toList]
 have hl := (List.getElem?_eq_some_iff.1 hj).1
 rw [← e7, List.getElem?_take_of_lt (by omega)] at hj
 exact hj
theorem nats_get {ts : List Nat} {j t : Nat} (h : ts[j]? = some t) : (nats ts)[j]? = some (.int .i64 (t : Int)) := by simp [nats, h]
def T3 (ps : List Pc) (xs : List Ins) (U i : Nat) (x T L : Int) (ins : Ins) (ts : List Nat) (hb vc : Nat) (va : Option Addr) (w : World) (Q : Exit → Act → World → Prop) (c0 c1 c2 c3 c4 c5 c7 c10 c11 c12 c13 c14 c18 c19 c20 c21 c22 c23 c24 c25 c26 c27 c28 c29 c30 c31 c32 c33 c34 c35 c36 c37 c38 c39 c40 c41 c42 c43 c44 c45 c46 c47 c48 c49 c50 c51 c52 c53 c54 c55 c56 c57 c58 c59 c60 c61 c62 c63 c64 c65 c66 c67 c68 c69 c70 c71 c72 c73 c74 c75 c76 c77 c78 c79 c80 c81 c82 c83 c84 c85 c86 c87 c88 c89 c90 c91 c92 c93 c94 c95 c96 c97 c98 c99 c100 c101 c102 c103 c104 c105 c106 c107 c108 c109 c110 c111 c112 c113 c114 c115 c116 c117 c118 c119 c120 c121 c122 c123 c168 c169 : Value) : Prop :=
 ∀ (d17 d124 d125 d126 d127 d128 d129 d130 d131 d132 d133 d134 d135 d136 d137 d138 d139 d140 d141 d142 d143 d144 d145 d146 d147 d148 d149 d150 d151 d152 d153 d154 d155 d156 d157 d158 d159 d160 d161 d162 d163 d164 d165 d166 d167 : Value) (hs2 : List Int) (ok2 ag2 : Bool) (j : Nat) (wv : World), KI ps xs U i x ins ts hs2 ok2 ag2 j → ts.length ≤ j → Blk wv hb (ints hs2).toArray 3 → Below hb w wv → Q .normal ⟨#[c0, c1, c2, c3, c4, c5, .slice (some ⟨hb, 0, none⟩) xs.length xs.length, c7, .bool ok2, .bool ag2, c10, c11, c12, c13, c14, .int .i64 (x - T + L), .slice va ts.length vc, d17, c18, c19, c20, c21, c22, c23, c24, c25, c26, c27, c28, c29, c30, c31, c32, c33, c34, c35, c36, c37, c38, c39, c40, c41, c42, c43, c44, c45, c46, c47, c48, c49, c50, c51, c52, c53, c54, c55, c56, c57, c58, c59, c60, c61, c62, c63, c64, c65, c66, c67, c68, c69, c70, c71, c72, c73, c74, c75, c76, c77, c78, c79, c80, c81, c82, c83, c84, c85, c86, c87, c88, c89, c90, c91, c92, c93, c94, c95, c96, c97, c98, c99, c100, c101, c102, c103, c104, c105, c106, c107, c108, c109, c110, c111, c112, c113, c114, c115, c116, c117, c118, c119, c120, c121, c122, c123, d124, d125, d126, d127, d128, d129, d130, d131, d132, d133, d134, d135, d136, d137, d138, d139, d140, d141, d142, d143, d144, d145, d146, d147, d148, d149, d150, d151, d152, d153, d154, d155, d156, d157, d158, d159, d160, d161, d162, d163, d164, d165, d166, d167, c168, c169], []⟩ wv
set_option maxRecDepth 10000 in
set_option maxHeartbeats 6400000 in
theorem reach3 (ps : List Pc) (xs : List Ins) (U i : Nat) (x T L : Int) (ins : Ins) (ts : List Nat) (hb vc B : Nat) (va : Option Addr) (w : World) (hs : List Int) (ok again : Bool) (K : Act → World → Prop) (Q : Exit → Act → World → Prop) (c0 c1 c2 c3 c4 c5 c7 c10 c11 c12 c13 c14 c17 c18 c19 c20 c21 c22 c23 c24 c25 c26 c27 c28 c29 c30 c31 c32 c33 c34 c35 c36 c37 c38 c39 c40 c41 c42 c43 c44 c45 c46 c47 c48 c49 c50 c51 c52 c53 c54 c55 c56 c57 c58 c59 c60 c61 c62 c63 c64 c65 c66 c67 c68 c69 c70 c71 c72 c73 c74 c75 c76 c77 c78 c79 c80 c81 c82 c83 c84 c85 c86 c87 c88 c89 c90 c91 c92 c93 c94 c95 c96 c97 c98 c99 c100 c101 c102 c103 c104 c105 c106 c107 c108 c109 c110 c111 c112 c113 c114 c115 c116 c117 c118 c119 c120 c121 c122 c123 c124 c125 c126 c127 c128 c129 c130 c131 c132 c133 c134 c135 c136 c137 c138 c139 c140 c141 c142 c143 c144 c145 c146 c147 c148 c149 c150 c151 c152 c153 c154 c155 c156 c157 c158 c159 c160 c161 c162 c163 c164 c165 c166 c167 c168 c169 : Value)
  (hT : takesP ps ins = T) (hL : leavesP ins = L) (hT0 : 0 ≤ T) (hL0 : 0 ≤ L) (hL2 : L ≤ 2) (h0 : 0 ≤ x) (hi : xs[i]? = some ins) (hmem : ∀ t ∈ ts, t ∈ goOn i ins) (h2 : ts.length ≤ 2) (hmax : xs.length ≤ 2048) (hBb : hb < B)
  (KI0 : KI ps xs U i x ins ts hs ok again 0) (kH : Blk w hb (ints hs).toArray 3) (own : w.ownsRow B 3 1 (.slice va ts.length vc) ts.length (nats ts))
  (hK : ∀ a w, Code.wp Tryd.prog (rest 26) Q a w → K a w) (hN : T3 ps xs U i x T L ins ts hb vc va w Q c0 c1 c2 c3 c4 c5 c7 c10 c11 c12 c13 c14 c18 c19 c20 c21 c22 c23 c24 c25 c26 c27 c28 c29 c30 c31 c32 c33 c34 c35 c36 c37 c38 c39 c40 c41 c42 c43 c44 c45 c46 c47 c48 c49 c50 c51 c52 c53 c54 c55 c56 c57 c58 c59 c60 c61 c62 c63 c64 c65 c66 c67 c68 c69 c70 c71 c72 c73 c74 c75 c76 c77 c78 c79 c80 c81 c82 c83 c84 c85 c86 c87 c88 c89 c90 c91 c92 c93 c94 c95 c96 c97 c98 c99 c100 c101 c102 c103 c104 c105 c106 c107 c108 c109 c110 c111 c112 c113 c114 c115 c116 c117 c118 c119 c120 c121 c122 c123 c168 c169) :
  Code.wp Tryd.prog (reg 26) (Exit.then K Q) ⟨#[c0, c1, c2, c3, c4, c5, .slice (some ⟨hb, 0, none⟩) xs.length xs.length, c7, .bool ok, .bool again, c10, c11, c12, c13, c14, .int .i64 (x - T + L), .slice va ts.length vc, c17, c18, c19, c20, c21, c22, c23, c24, c25, c26, c27, c28, c29, c30, c31, c32, c33, c34, c35, c36, c37, c38, c39, c40, c41, c42, c43, c44, c45, c46, c47, c48, c49, c50, c51, c52, c53, c54, c55, c56, c57, c58, c59, c60, c61, c62, c63, c64, c65, c66, c67, c68, c69, c70, c71, c72, c73, c74, c75, c76, c77, c78, c79, c80, c81, c82, c83, c84, c85, c86, c87, c88, c89, c90, c91, c92, c93, c94, c95, c96, c97, c98, c99, c100, c101, c102, c103, c104, c105, c106, c107, c108, c109, c110, c111, c112, c113, c114, c115, c116, c117, c118, c119, c120, c121, c122, c123, c124, c125, c126, c127, c128, c129, c130, c131, c132, c133, c134, c135, c136, c137, c138, c139, c140, c141, c142, c143, c144, c145, c146, c147, c148, c149, c150, c151, c152, c153, c154, c155, c156, c157, c158, c159, c160, c161, c162, c163, c164, c165, c166, c167, c168, c169], []⟩ w := by
 have HT := show Hid (_ = _) from hT
 have HL := show Hid (_ = _) from hL
 have HI := show Hid (_ = _) from hi
 have HM := show Hid (∀ t ∈ ts, _) from hmem
 have HK0 : Hid (KI ps xs U i x ins ts hs ok again 0) := KI0
 have HNN : Hid (T3 ps xs U i x T L ins ts hb vc va w Q c0 c1 c2 c3 c4 c5 c7 c10 c11 c12 c13 c14 c18 c19 c20 c21 c22 c23 c24 c25 c26 c27 c28 c29 c30 c31 c32 c33 c34 c35 c36 c37 c38 c39 c40 c41 c42 c43 c44 c45 c46 c47 c48 c49 c50 c51 c52 c53 c54 c55 c56 c57 c58 c59 c60 c61 c62 c63 c64 c65 c66 c67 c68 c69 c70 c71 c72 c73 c74 c75 c76 c77 c78 c79 c80 c81 c82 c83 c84 c85 c86 c87 c88 c89 c90 c91 c92 c93 c94 c95 c96 c97 c98 c99 c100 c101 c102 c103 c104 c105 c106 c107 c108 c109 c110 c111 c112 c113 c114 c115 c116 c117 c118 c119 c120 c121 c122 c123 c168 c169) := hN
 clear hT hL hi hmem KI0 hN
 conv => arg 2; whnf
 conv => arg 4; dsimp only
 go_wp2_with fail
 conv => arg 2; whnf
 conv => arg 4; dsimp only
 go_wp2_with fail
 go_loopw [8, 9, 17] (fun okv agv kv wv => ∃ (hs2 : List Int) (ok2 ag2 : Bool) (j : Nat), okv = .bool ok2 ∧ agv = .bool ag2 ∧ kv = .int .i64 j ∧ j ≤ ts.length ∧ Hid (KI ps xs U i x ins ts hs2 ok2 ag2 j) ∧ Blk wv hb (ints hs2).toArray 3 ∧ wv.ownsRow B 3 1 (.slice va ts.length vc) ts.length (nats ts) ∧ Below hb w wv) (fun _ _ kv _ => ts.length - (intOf kv).toNat)
 case atStart => exact ⟨hs, ok, again, 0, rfl, rfl, rfl, Nat.zero_le _, HK0, kH, own, Below.refl _ _⟩
 case round =>
  obtain ⟨hs2, ok2, ag2, j, rfl, rfl, rfl, hj, HK, kH2, own2, b2⟩ := hrel
  clear kH own HK0
  by_cases hjn : j < ts.length
  rotate_left
  ·have hji : ¬ (j : Int) < (ts.length : Int) := by omega
   go_wp2
   exact HNN.out _ _ _ _ _ _ _ _ _ _ _ _ _ _ _ _ _ _ _ _ _ _ _ _ _ _ _ _ _ _ _ _ _ _ _ _ _ _ _ _ _ _ _ _ _ _ _ _ _ _ HK.out (by omega) kH2 b2
  have hji : (j : Int) < (ts.length : Int) := by omega
  obtain ⟨t, ht⟩ : ∃ t, ts[j]? = some t := ⟨_, List.getElem?_eq_getElem hjn⟩
  obtain ⟨g, rfl, cg, hg, hgB⟩ := own_get own2 (nats_get ht)
  have htm := HM.out t (List.mem_of_getElem? ht)
  have HTT := show Hid (_ = _) from ht
  have HTM := show Hid (_ ∈ _) from htm
  clear ht htm
  by_cases hfar : xs.length ≤ t
  ·have hf : (xs.length : Int) ≤ (t : Int) := by omega
   have HKn : Hid (KI ps xs U i x ins ts hs2 false ag2 (j + 1)) := HK.out.far h0 HI.out HTM.out hfar
   go_wp2
   exact ⟨⟨hs2, false, ag2, j + 1, rfl, rfl, by go_num, by omega, HKn, kH2, own2, b2⟩, by simp [intOf]; omega⟩
  have hf : ¬ (xs.length : Int) ≤ (t : Int) := by omega
  have hti : (t : Int) < (xs.length : Int) := by omega
  obtain ⟨y, hy⟩ : ∃ y, hs2[t]? = some y := ⟨_, List.getElem?_eq_getElem (by rw [HK.out.ri.len]; omega)⟩
  have r := kH2.cell t
  rw [ints_get, hy] at r
  simp only [Option.map_some] at r
  have rf := kH2.frozen t
  have hzh := kH2.lt
  by_cases hnew : y < 0 ∧ 0 ≤ x - T + L
  ·obtain ⟨hy0, hn0⟩ := hnew
   have HKn : Hid (KI ps xs U i x ins ts (hs2.set t (x - T + L)) ok2 true (j + 1)) := by
    have := HK.out.new h0 HI.out HTM.out hy hy0 (by rw [HT.out, HL.out]; exact hn0) (by rw [HT.out]; exact hT0) (by rw [HL.out]; exact hL2)
    rw [HT.out, HL.out] at this
    exact this
   have kH3 := kH2.set t (.int .i64 (x - T + L))
   rw [ints_set] at kH3
   have own3 := ownsRow_setCell_below own2 (a := ⟨hb, t, none⟩) (by simp; omega) (.int .i64 (x - T + L))
   have b3 := b2.setCell (p := ⟨hb, t, none⟩) (by simp) (.int .i64 (x - T + L))
   have cg3 : (wr.setCell ⟨hb, t, none⟩ (.int .i64 (x - T + L))).cell? ⟨g, j, none⟩ = some (.int .i64 (t : Int)) := (World.cell?_setCell_other _ _ _ _ (by simp <;> omega)).trans cg
   have r3 : (wr.setCell ⟨hb, t, none⟩ (.int .i64 (x - T + L))).cell? ⟨hb, t, none⟩ = some (.int .i64 (x - T + L)) := by
    have := kH3.cell t
    rw [ints_get, List.getElem?_set] at this
    have hl := (List.getElem?_eq_some_iff.1 hy).1
    simpa [hl] using this
   clear hy
   cases ok2
   ·go_wp2
    exact ⟨⟨_, false, true, j + 1, rfl, rfl, by go_num, by omega, HKn, kH3, own3, b3⟩, by simp [intOf]; omega⟩
   ·go_wp2
    exact ⟨⟨_, true, true, j + 1, by simp, rfl, by go_num, by omega, HKn, kH3, own3, b3⟩, by simp [intOf]; omega⟩
  ·have HKn : Hid (KI ps xs U i x ins ts hs2 (ok2 && decide (y = x - T + L)) ag2 (j + 1)) := by
    have := HK.out.old h0 HI.out HTT.out HTM.out hy (by rw [HT.out, HL.out]; omega) (by rw [HL.out]; exact hL0)
    rw [HT.out, HL.out] at this
    exact this
   clear hy
   by_cases hy0 : y < 0
   ·have hn0 : ¬ 0 ≤ x - T + L := fun h => hnew ⟨hy0, h⟩
    have d1 := decide_eq_true hy0
    have d2 := decide_eq_false hn0
    clear hnew
    cases ok2
    ·go_wp2
     exact ⟨⟨_, false, ag2, j + 1, rfl, rfl, by go_num, by omega, HKn, kH2, own2, b2⟩, by simp [intOf]; omega⟩
    ·go_wp2
     exact ⟨⟨_, decide (y = x - T + L), ag2, j + 1, by simp [BEq.beq], rfl, by go_num, by omega, by simpa using HKn, kH2, own2, b2⟩, by simp [intOf]; omega⟩
   ·have d1 := decide_eq_false hy0
    clear hnew
    cases ok2
    ·go_wp2
     exact ⟨⟨_, false, ag2, j + 1, rfl, rfl, by go_num, by omega, HKn, kH2, own2, b2⟩, by simp [intOf]; omega⟩
    ·go_wp2
     exact ⟨⟨_, decide (y = x - T + L), ag2, j + 1, by simp [BEq.beq], rfl, by go_num, by omega, by simpa using HKn, kH2, own2, b2⟩, by simp [intOf]; omega⟩
end Go.Proofs.YtemjajljpoaioaaDoor
