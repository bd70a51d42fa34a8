/- ScriptPrints: a contract that was parsed, and one that was turned somewhere: both printers give the same text and the same number. Conditions: eight tables start as the program's text lays them (the card ties them). -/
import Derived.Test.YthhpkjmhcolgfaaGreatDoorRows
import Derived.Test.YthhpkjmhcolgfaaGreatDoorCards
import Derived.Test.YthhpkjmhcolgfaaGreatDoorTie
import Derived.Test.YthhpkjmhcolgfaaGreatDoorSQn4
import Derived.ProofKit
import Derived.OpenShut
import Derived.ChangeOld
import Derived.ChangeArms
import Derived.ChangeMaps
import Derived.WideShapes
import Derived.Deep.Slices
import Derived.SizedLaws
import Derived.Lay
import Derived.Lib.LaidTab
import Derived.Stop.Joined
import Derived.SevenTiedAt
namespace Go.Proofs.YthhpkjmhcolgfaaGreatDoor.scriptPrints
open Go.ChangeShapes Go.WideShapes Go.ChangeAt Go.RowKit
open Go.ChangeMaps (open_string shut_string)
set_option linter.unusedVariables false
set_option maxRecDepth 20000
set_option maxHeartbeats 8000000
set_option linter.unusedSimpArgs false
theorem own : ownKnob Tryz.prog.godebug = none := by kernel_rfl
theorem laidOut : laidOutB Tryz.prog = true := by kernel_rfl
theorem Tryz.cellsG : Tryz.prog.cellsOf 9 = 1 := by kernel_rfl
theorem Tryz.cellsB : Tryz.prog.cellsOf 4 = 1 := by kernel_rfl
theorem Tryz.cellsI : Tryz.prog.cellsOf 3 = 1 := by kernel_rfl
theorem Tryz.cellsF : Tryz.prog.cellsOf 174 = 2 := by kernel_rfl
theorem Tryz.cellsS : Tryz.prog.cellsOf 147 = 6 := by kernel_rfl
theorem Tryz.cellsH : Tryz.prog.cellsOf 23 = 4 := by kernel_rfl
theorem Tryz.cellsU : Tryz.prog.cellsOf 200 = 1 := by kernel_rfl
theorem Tryz.cellsW : Tryz.prog.cellsOf 206 = 20 := by kernel_rfl
def laid1 : List (String × DataW Unit) := [("math/bits.deBruijn32tab", Rows.laid_math_bits_deBruijn32tab), ("math/bits.deBruijn64tab", Rows.laid_math_bits_deBruijn64tab), ("internal/strconv.uint64pow10", Rows.laid_internal_strconv_uint64pow10), ("assize/script.exprFields", Rows.laid_assize_script_exprFields), ("assize/script.stepFields", Rows.laid_assize_script_stepFields), ("assize/script.kindWords", Rows.laid_assize_script_kindWords), ("assize/script.stepWords", Rows.laid_assize_script_stepWords), ("assize/script.exprWords", Rows.laid_assize_script_exprWords)]
theorem str_eta (s : ByteArray) : s = str s.data.toList := by
 cases s; simp [str]
def svX (L : List Key) : List Value := L.map fun s => .string (str s)
theorem words_at {W : World} {g T n f : Nat} {cs : Array Value} {p : List MemPlace} {L : List Key} (hT : Tryz.prog.underlying T = some (.array n 9)) (hcell : ∀ off, W.cell? ⟨g, off, none⟩ = cs[off]?) (hL : L.length = n) (hd : DataW.trod (fun _ => ()) Tryz.prog W 0 (fun _ => true) false f T cs.toList = some (.agg (L.map fun s => .lit (.string s)), p)) : W.rangeAt g 0 (svX L) := fun j v hj => by
 obtain ⟨xs, m, _, hx, _, hn, hel⟩ := DataW.trod_array hT hd;simp only [svX, List.getElem?_map, Option.map_eq_some_iff] at hj;obtain ⟨s, hs, rfl⟩ := hj;have hjn : j < n := by rw [← hL]; exact (List.getElem?_eq_some_iff.1 hs).1
 have h1 := hel j hjn;rw [Tryz.cellsG, Nat.mul_one] at h1;obtain ⟨x, hxj⟩ : ∃ x, xs[j]? = some x := ⟨_, List.getElem?_eq_getElem (by omega)⟩;rw [hxj] at h1;obtain ⟨b, e0, d0, _⟩ := DataW.trod_string Tryz.underlying9 h1;simp only [Prod.mk.injEq, DataW.agg.injEq] at hx;have h3 := congrArg (fun l => l[j]?) hx.1;simp only [List.getElem?_map, hxj, hs, Option.map_some, Option.some.injEq, d0, DataW.lit.injEq, Lit.string.injEq] at h3;rw [Nat.zero_add, hcell]
 have h4 : (cs.toList.drop j)[0]? = some (.string b) := by
  have := congrArg (fun l => l[0]?) e0
  simpa using this
 rw [List.getElem?_drop, Nat.add_zero, Array.getElem?_toList] at h4;rw [h4, str_eta b, ← h3]
theorem forms_at {W : World} {g T n f : Nat} {cs : Array Value} {p : List MemPlace} {L : List (Bool × Int)} (hT : Tryz.prog.underlying T = some (.array n 174)) (hcell : ∀ off, W.cell? ⟨g, off, none⟩ = cs[off]?) (hL : L.length = n) (hd : DataW.trod (fun _ => ()) Tryz.prog W 0 (fun _ => true) false f T cs.toList = some (.agg (L.map fun s => .agg [.lit (.bool s.1), .lit (.int .i64 s.2)]), p)) : W.rangeAt g 0 (flatF L) := by
 obtain ⟨xs, m, _, hx, _, hn, hel⟩ := DataW.trod_array hT hd;simp only [Prod.mk.injEq, DataW.agg.injEq] at hx
 have key : ∀ j s, L[j]? = some s → W.cell? ⟨g, 2 * j, none⟩ = some (.bool s.1) ∧ W.cell? ⟨g, 2 * j + 1, none⟩ = some (.int .i64 s.2) := fun j s hs => by
  have hjn : j < n := by rw [← hL]; exact (List.getElem?_eq_some_iff.1 hs).1
  have h1 := hel j hjn;rw [Tryz.cellsF] at h1;obtain ⟨x, hxj⟩ : ∃ x, xs[j]? = some x := ⟨_, List.getElem?_eq_getElem (by omega)⟩;rw [hxj] at h1;obtain ⟨ys, m2, _, hy, hc, hl2, hfs⟩ := DataW.trod_struct Tryz.underlying174 h1;rw [Tryz.cellsF] at hc
  obtain ⟨z0, z1, hz⟩ : ∃ z0 z1, (cs.toList.drop (j * 2)).take 2 = [z0, z1] := by
   match (cs.toList.drop (j * 2)).take 2, hc with
   | [a, b], _ => exact ⟨a, b, rfl⟩
  obtain ⟨y0, y1, rfl⟩ : ∃ y0 y1, ys = [y0, y1] := by
   match ys, (show ys.length = 2 by simpa using hl2) with
   | [a, b], _ => exact ⟨a, b, rfl⟩
  rw [hz] at hfs;have g0 := hfs 0 _ rfl;simp [Tryz.cellsB] at g0;have g1 := hfs 1 _ rfl;simp [Tryz.cellsI] at g1;obtain ⟨n0, e0, d0⟩ := DataW.trod_bool Tryz.underlying4 g0;obtain ⟨n1, e1, d1, _⟩ := DataW.trod_int Tryz.underlying3 g1;simp only [List.cons.injEq, and_true] at e0 e1;subst e0 e1;have h3 := congrArg (fun l => l[j]?) hx.1;simp only [List.getElem?_map, hxj, hs, Option.map_some, Option.some.injEq] at h3;rw [hy] at h3;simp only [List.map_cons, List.map_nil, d0, d1, DataW.agg.injEq, List.cons.injEq, DataW.lit.injEq, Lit.int.injEq, Lit.bool.injEq, true_and, and_true] at h3;obtain ⟨f0, f1⟩ := h3
  have at_ : ∀ i, i < 2 → cs[j * 2 + i]? = [Value.bool n0, .int .i64 n1][i]? := by
   intro i hi;rw [← hz, List.getElem?_take_of_lt hi, List.getElem?_drop, Array.getElem?_toList]
  have a0 := at_ 0 (by omega);have a1 := at_ 1 (by omega);simp only [List.getElem?_cons_succ, List.getElem?_cons_zero, Nat.add_zero] at a0 a1;rw [f0, f1, hcell, hcell, Nat.mul_comm];exact ⟨a0, a1⟩
 clear hd hx hel hn hL hT hcell
 suffices H : ∀ (L : List (Bool × Int)) (b : Nat), (∀ j s, L[j]? = some s → W.cell? ⟨g, b + 2 * j, none⟩ = some (.bool s.1) ∧ W.cell? ⟨g, b + 2 * j + 1, none⟩ = some (.int .i64 s.2)) → W.rangeAt g b (flatF L) by
  exact H L 0 fun j s hs => by simpa using key j s hs
 intro L
 induction L with
 | nil => exact fun b _ j v hj => by cases hj
 | cons s r ih =>
  intro b hb j v hj;obtain ⟨x, y⟩ := s;have h0 := hb 0 _ rfl
  match j, hj with
  | 0, hj => simp only [flatF, List.getElem?_cons_zero, Option.some.injEq] at hj; subst hj; exact h0.1
  | 1, hj => simp only [flatF, List.getElem?_cons_succ, List.getElem?_cons_zero, Option.some.injEq] at hj; subst hj; exact h0.2
  | j + 2, hj =>
   have hj : (flatF r)[j]? = some v := by simpa [flatF] using hj
   have := ih (b + 2) (fun i s hs => by
    have := hb (i + 1) s (by simpa using hs);rw [show b + 2 * (i + 1) = b + 2 + 2 * i by omega] at this
    exact this) j v hj
   rw [show b + (j + 2) = b + 2 + j by omega];exact this
theorem tabW_of {W : World} {g n : Nat} {L : List Key} {f : Int → Key} (r : W.rangeAt g 0 (svX L)) (h : ∀ k : Nat, k < n → L[k]? = some (f (k : Int))) : TabW W g n f := fun k hk => by
 have := r k (.string (str (f (k : Int)))) (by rw [svX, List.getElem?_map, h k hk]; rfl);rw [Nat.zero_add] at this;exact this
def flatS : List (Bool × Bool × Bool × Bool × Bool × Int) → List Value
 | [] => []
 | s :: r => .bool s.1 :: .bool s.2.1 :: .bool s.2.2.1 :: .bool s.2.2.2.1 :: .bool s.2.2.2.2.1 :: .int .i64 s.2.2.2.2.2 :: flatS r
theorem six_of {α : Type} {l : List α} (h : l.length = 6) : ∃ a b c d e f, l = [a, b, c, d, e, f] := by
 match l, h with
 | [a, b, c, d, e, f], _ => exact ⟨a, b, c, d, e, f, rfl⟩
theorem four_ofX {α : Type} {l : List α} (h : l.length = 4) : ∃ a b c d, l = [a, b, c, d] := by
 match l, h with
 | [a, b, c, d], _ => exact ⟨a, b, c, d, rfl⟩
theorem steps_at {W : World} {g T n f : Nat} {cs : Array Value} {p : List MemPlace} {L : List (Bool × Bool × Bool × Bool × Bool × Int)} (hT : Tryz.prog.underlying T = some (.array n 147)) (hcell : ∀ off, W.cell? ⟨g, off, none⟩ = cs[off]?) (hL : L.length = n) (hd : DataW.trod (fun _ => ()) Tryz.prog W 0 (fun _ => true) false f T cs.toList = some (.agg (L.map fun s => .agg [.lit (.bool s.1), .lit (.bool s.2.1), .lit (.bool s.2.2.1), .lit (.bool s.2.2.2.1), .lit (.bool s.2.2.2.2.1), .lit (.int .i64 s.2.2.2.2.2)]), p)) : W.rangeAt g 0 (flatS L) := by
 obtain ⟨xs, m, _, hx, _, hn, hel⟩ := DataW.trod_array hT hd;simp only [Prod.mk.injEq, DataW.agg.injEq] at hx
 have key : ∀ j s, L[j]? = some s → ∀ i, i < 6 → W.cell? ⟨g, 6 * j + i, none⟩ = (flatS [s])[i]? := fun j s hs => by
  have hjn : j < n := by rw [← hL]; exact (List.getElem?_eq_some_iff.1 hs).1
  have h1 := hel j hjn;rw [Tryz.cellsS] at h1;obtain ⟨x, hxj⟩ : ∃ x, xs[j]? = some x := ⟨_, List.getElem?_eq_getElem (by omega)⟩;rw [hxj] at h1;obtain ⟨ys, m2, _, hy, hc, hl2, hfs⟩ := DataW.trod_struct Tryz.underlying147 h1;rw [Tryz.cellsS] at hc;obtain ⟨z0, z1, z2, z3, z4, z5, hz⟩ := six_of hc;obtain ⟨y0, y1, y2, y3, y4, y5, rfl⟩ := six_of (l := ys) (by simpa using hl2);rw [hz] at hfs;have g0 := hfs 0 _ rfl;simp [Tryz.cellsB, Tryz.cellsI] at g0;have g1 := hfs 1 _ rfl;simp [Tryz.cellsB, Tryz.cellsI] at g1;have g2 := hfs 2 _ rfl;simp [Tryz.cellsB, Tryz.cellsI] at g2;have g3 := hfs 3 _ rfl;simp [Tryz.cellsB, Tryz.cellsI] at g3;have g4 := hfs 4 _ rfl;simp [Tryz.cellsB, Tryz.cellsI] at g4;have g5 := hfs 5 _ rfl;simp [Tryz.cellsB, Tryz.cellsI] at g5;obtain ⟨n0, e0, d0⟩ := DataW.trod_bool Tryz.underlying4 g0;obtain ⟨n1, e1, d1⟩ := DataW.trod_bool Tryz.underlying4 g1;obtain ⟨n2, e2, d2⟩ := DataW.trod_bool Tryz.underlying4 g2;obtain ⟨n3, e3, d3⟩ := DataW.trod_bool Tryz.underlying4 g3;obtain ⟨n4, e4, d4⟩ := DataW.trod_bool Tryz.underlying4 g4;obtain ⟨n5, e5, d5, _⟩ := DataW.trod_int Tryz.underlying3 g5;simp only [List.cons.injEq, and_true] at e0 e1 e2 e3 e4 e5;subst e0 e1 e2 e3 e4 e5;have h3 := congrArg (fun l => l[j]?) hx.1;simp only [List.getElem?_map, hxj, hs, Option.map_some, Option.some.injEq] at h3;rw [hy] at h3;simp only [List.map_cons, List.map_nil, d0, d1, d2, d3, d4, d5, DataW.agg.injEq, List.cons.injEq, DataW.lit.injEq, Lit.int.injEq, Lit.bool.injEq, true_and, and_true] at h3;obtain ⟨f0, f1, f2, f3, f4, f5⟩ := h3;intro i hi;rw [hcell, Nat.mul_comm]
  have a : cs[j * 6 + i]? = [Value.bool n0, .bool n1, .bool n2, .bool n3, .bool n4, .int .i64 n5][i]? := by
   rw [← hz, List.getElem?_take_of_lt hi, List.getElem?_drop, Array.getElem?_toList]
  rw [a, ← f0, ← f1, ← f2, ← f3, ← f4, ← f5];rfl
 clear hd hx hel hn hL hT hcell
 suffices H : ∀ (L : List (Bool × Bool × Bool × Bool × Bool × Int)) (b : Nat), (∀ j s, L[j]? = some s → ∀ i, i < 6 → W.cell? ⟨g, b + 6 * j + i, none⟩ = (flatS [s])[i]?) → W.rangeAt g b (flatS L) by
  exact H L 0 fun j s hs i hi => by have := key j s hs i hi; rwa [Nat.zero_add]
 intro L
 induction L with
 | nil => exact fun b _ j v hj => by cases hj
 | cons s r ih =>
  intro b hb j v hj
  by_cases h6 : j < 6
  ·have h0 := hb 0 s rfl j h6;rw [Nat.mul_zero, Nat.add_zero] at h0;rw [h0];have e : flatS (s :: r) = flatS [s] ++ flatS r := rfl;rw [e, List.getElem?_append_left (by exact h6)] at hj;exact hj
  ·have e : flatS (s :: r) = flatS [s] ++ flatS r := rfl;rw [e, List.getElem?_append_right (by show 6 ≤ j; omega)] at hj;have hj : (flatS r)[j - 6]? = some v := hj
   have := ih (b + 6) (fun i s hs q hq => by
    have := hb (i + 1) s (by simpa using hs) q hq;rw [show b + 6 * (i + 1) + q = b + 6 + 6 * i + q by omega] at this
    exact this) (j - 6) v hj
   rw [show b + j = b + 6 + (j - 6) by omega];exact this
def stepL : List (Bool × Bool × Bool × Bool × Bool × Int) := [(false, false, false, false, false, 0), (true, true, false, false, false, 1), (true, false, false, false, false, 1), (true, false, false, false, false, 2), (false, false, false, true, true, 1), (false, false, false, true, false, 1), (false, false, false, false, false, 1), (false, false, false, false, false, 1), (false, false, false, false, false, 2), (false, false, false, false, false, 1), (true, false, true, false, false, 3)]
def kwL : List Key := [[], [110, 117, 109], [102, 108, 97, 103], [119, 104, 111]]
def swL : List Key := [[], [108, 101, 116], [], [], [105, 102], [119, 104, 105, 108, 101], [114, 101, 116, 117, 114, 110], [110, 101, 101, 100], [112, 97, 121], [110, 111, 116, 101], [97, 115, 107]]
def ewL : List Key := [[], [], [], [], [], [], [111, 114], [97, 110, 100], [110, 111, 116], [61, 61], [33, 61], [60], [60, 61], [62], [62, 61], [43], [45], [42], [47], [37], [115, 101, 108, 102], [99, 97, 108, 108, 101, 114], [118, 97, 108, 117, 101], [104, 101, 105, 103, 104, 116], [98, 97, 108, 97, 110, 99, 101], [119, 104, 111], [110, 117, 109]]
theorem of_laid {W : World} (h : laidMetH Tryz.prog laid1 W) : GlP W := by
 rw [MakeChecks.laidMetH_plain _ _ _ (by kernel_rfl)] at h;obtain ⟨ps, ⟨ga, ta, csa, fa, pa, qa, hga, hta, hva, hda, ⟨gb, tb, csb, fb, pb, qb, hgb, htb, hvb, hdb, ⟨gc, tc, csc, fc, pc, qc, hgc, htc, hvc, hdc, ⟨g4, t4, cs4, f4, p4, q4, hg4, ht4, hv4, hd4, ⟨g1, t1, cs1, f1, p1, q1, hg1, ht1, hv1, hd1, ⟨g0, t0, cs0, f0, p0, q0, hg0, ht0, hv0, hd0, ⟨g5, t5, cs5, f5, p5, q5, hg5, ht5, hv5, hd5, ⟨g6, t6, cs6, f6, p6, q6, hg6, ht6, hv6, hd6, _⟩, _⟩, _⟩, _⟩, _⟩, _⟩, _⟩, _⟩, _, _⟩ := h;obtain rfl := Option.some.inj ((show Tryz.prog.globalNamed "assize/script.kindWords" = some 0 by kernel_rfl).symm.trans hg0);obtain rfl := Option.some.inj ((show Tryz.prog.globalNamed "assize/script.stepFields" = some 1 by kernel_rfl).symm.trans hg1);obtain rfl := Option.some.inj ((show Tryz.prog.globalNamed "assize/script.exprFields" = some 4 by kernel_rfl).symm.trans hg4);obtain rfl := Option.some.inj ((show Tryz.prog.globalNamed "assize/script.stepWords" = some 5 by kernel_rfl).symm.trans hg5);obtain rfl := Option.some.inj ((show Tryz.prog.globalNamed "assize/script.exprWords" = some 6 by kernel_rfl).symm.trans hg6);obtain rfl := Option.some.inj ((show (Tryz.prog.globals[0]?).map (·.type) = some 116 by kernel_rfl).symm.trans ht0);obtain rfl := Option.some.inj ((show (Tryz.prog.globals[1]?).map (·.type) = some 148 by kernel_rfl).symm.trans ht1);obtain rfl := Option.some.inj ((show (Tryz.prog.globals[4]?).map (·.type) = some 175 by kernel_rfl).symm.trans ht4);obtain rfl := Option.some.inj ((show (Tryz.prog.globals[5]?).map (·.type) = some 177 by kernel_rfl).symm.trans ht5);obtain rfl := Option.some.inj ((show (Tryz.prog.globals[6]?).map (·.type) = some 193 by kernel_rfl).symm.trans ht6)
 have htc' : tc = 206 := by
  have e : (Tryz.prog.globalNamed "internal/strconv.uint64pow10").bind (fun g => (Tryz.prog.globals[g]?).map (·.type)) = some 206 := by kernel_rfl
  rw [hgc] at e;simp only [Option.bind_some] at e;exact Option.some.inj (htc.symm.trans e)
 subst htc';have r0 : W.rangeAt 0 0 (svX kwL) := words_at Tryz.underlying116 (World.var?_cell hg0 hv0) rfl hd0;have r1 : W.rangeAt 1 0 (flatS stepL) := steps_at Tryz.underlying148 (World.var?_cell hg1 hv1) rfl hd1;have r4 : W.rangeAt 4 0 (flatF formL) := forms_at Tryz.underlying175 (World.var?_cell hg4 hv4) rfl hd4;have r5 : W.rangeAt 5 0 (svX swL) := words_at Tryz.underlying177 (World.var?_cell hg5 hv5) rfl hd5;have r6 : W.rangeAt 6 0 (svX ewL) := words_at Tryz.underlying193 (World.var?_cell hg6 hv6) rfl hd6
 have rp : PowT W := by
  have e : csc.toList = Lib.pow10Tab.map fun z => Value.int .u64 z := Lib.cells_of_tab (zs := Lib.pow10Tab) Tryz.underlying206 Tryz.underlying200 Tryz.cellsU Tryz.cellsW hdc;unfold PowT Lib.TabIs;rw [hvc, ← e]
 exact ⟨⟨tabW_of r0 (by decide), tabW_of r5 (by decide), tabW_of r6 (by decide), World.block_lt_of_cell? W _ (r6 0 (.string (str [])) rfl)⟩, rp, r4, r1⟩
theorem int_wf {a : Int} (h : (Lit.int .i64 a).wf = true) : -9223372036854775808 ≤ a ∧ a ≤ 9223372036854775807 := by
 simpa [Lit.wf, IntKind.min, IntKind.max, IntKind.signed, IntKind.bits] using h
theorem open_shape {H : Type} {enc : TypeId × Value → H} {W : World} {sp : Nat → Bool} {fuel : Nat} {cs : List Value} {x : DataW H × List MemPlace} (h : DataW.trod enc Tryz.prog W 0 sp true fuel 23 cs = some x) (hw : ∀ n ∈ x.1.weights Tryz.prog 23, n ≤ reachBytes) :
  ∃ (text name : Key) (tT nN : Int), cs = [.string (str text), .int .i64 tT, .int .i64 nN, .string (str name)] ∧ (-9223372036854775808 ≤ tT ∧ tT ≤ 9223372036854775807) ∧ (-9223372036854775808 ≤ nN ∧ nN ≤ 9223372036854775807) ∧ text.length ≤ 140737488355328 ∧ name.length ≤ 140737488355328 := by
 obtain ⟨ys, m, _, rfl, hc, hlen, hfs⟩ := DataW.trod_struct Tryz.underlying23 h;rw [Tryz.cellsH] at hc;obtain ⟨z0, z1, z2, z3, rfl⟩ := four_ofX hc;obtain ⟨y0, y1, y2, y3, rfl⟩ := four_ofX (l := ys) (by simpa using hlen);have g0 := hfs 0 _ rfl;simp [Tryz.cellsI, Tryz.cellsG] at g0;have g1 := hfs 1 _ rfl;simp [Tryz.cellsI, Tryz.cellsG] at g1;have g2 := hfs 2 _ rfl;simp [Tryz.cellsI, Tryz.cellsG] at g2;have g3 := hfs 3 _ rfl;simp [Tryz.cellsI, Tryz.cellsG] at g3
 have w0 : ∀ n ∈ y0.1.weights Tryz.prog 9, n ≤ reachBytes := fun n hn => hw n (by
  simp only [DataW.weights, Tryz.underlying23]
  exact DataW.weights_mem_each (j := 0) rfl rfl n hn)
 have w3 : ∀ n ∈ y3.1.weights Tryz.prog 9, n ≤ reachBytes := fun n hn => hw n (by
  simp only [DataW.weights, Tryz.underlying23]
  exact DataW.weights_mem_each (j := 3) rfl rfl n hn)
 obtain ⟨s0, e0, f0, _⟩ := DataW.trod_string Tryz.underlying9 g0;obtain ⟨n1, e1, _, i1⟩ := DataW.trod_int Tryz.underlying3 g1;obtain ⟨n2, e2, _, i2⟩ := DataW.trod_int Tryz.underlying3 g2;obtain ⟨s3, e3, f3, _⟩ := DataW.trod_string Tryz.underlying9 g3;simp only [List.cons.injEq, and_true] at e0 e1 e2 e3;subst e0 e1 e2 e3;have l0 := w0 s0.data.toList.length (by rw [f0]; simp [DataW.weights]);have l3 := w3 s3.data.toList.length (by rw [f3]; simp [DataW.weights]);unfold reachBytes at l0 l3;exact ⟨s0.data.toList, s3.data.toList, n1, n2, by rw [← str_eta, ← str_eta], int_wf i1, int_wf i2, by omega, by omega⟩
theorem lifted (os : Os) (started : os.Started) (H : Type) (enc : TypeId × Value → H) :
  ReturnsInHanded {} Tryz.checked os 3 .any (fun w args => (Rows.scriptPrintsSpec.pre enc Tryz.prog Tryz.f3 [] false w args ∧ laidMetH Tryz.prog laid1 w) ∧ sizedMet enc Tryz.prog Tryz.f3 (OpenSpec.ofChange Rows.scriptPrintsSpec) false w args)
   (Rows.scriptPrintsSpec.post enc Tryz.prog Tryz.f3 false true false false) := by
 refine returnsInHanded_of_change_and (C := Tryz.checked) (X := fun w _ => laidMetH Tryz.prog laid1 w) (fun _ _ _ hh h => h.of_heap hh) own started (by kernel_rfl) Tryz.func3
  (ChangeSpec.witness_shaped (enc := enc) (C := Tryz.checked) (os := os) (X := fun w _ => laidMetH Tryz.prog laid1 w) false (World.laidAll Tryz.prog os laid1) #[.agg #[.string ⟨#[]⟩, .int .i64 0, .int .i64 0, .string ⟨#[]⟩]] 8 (World.laidAll_os _ _ _)
   (World.shaped_of_ZipB (by kernel_rfl) (by kernel_rfl)) (by kernel_rfl) (by kernel_rfl) (by kernel_rfl)
   (by rw [MakeChecks.laidMetH_plain _ _ _ (by kernel_rfl)]; exact laidMet_laidAll _ (by kernel_rfl) (by kernel_rfl))) ?_
 intro W base args ds gs before hval0 hW _ hsz0 hL _;have hval : ∀ (j : Nat) t v, Tryz.f3.params[j]? = some t → args[j]? = some v → Value.okWide Tryz.prog W .any base t v := hval0;have hsz : (DataW.weightsEach Tryz.prog (Tryz.f3.params.toList ++ Rows.scriptPrintsSpec.plain.varTypes Tryz.prog) (ds ++ gs)).all (· ≤ reachBytes) = true := hsz0;have hW' := hW;obtain ⟨p, q, hA0, hV, rfl, hfz, hnd⟩ := hW;have hA : DataW.TrodAll enc Tryz.prog W 0 (fun _ => true) true Tryz.f3.params.toList args.toList ds p := hA0;rw [Tryz.params3] at hA hval hsz;obtain ⟨v0, vs0, d0, ds0, p0, q0, hargs, rfl, rfl, h0, r0⟩ := trodAll_cons hA;obtain ⟨rfl, rfl, rfl⟩ := trodAll_nil r0;obtain rfl : args = #[v0] := by cases args; simp_all
 obtain ⟨rfl, rfl⟩ := trodVars_none hV
 have hz0 : ∀ n ∈ d0.weights Tryz.prog 23, n ≤ reachBytes := fun n hn => by
  have := List.all_eq_true.1 hsz n (DataW.weights_mem_each (j := 0) rfl rfl n hn)
  simpa using this
 have k0 := h0;have lt0 : ∀ x ∈ p0, x.block < W.heap.size := by obtain ⟨m, hm⟩ := k0; exact DataW.trod_lt m _ _ _ hm
 obtain ⟨fu0, hf0⟩ := h0;obtain ⟨cs0, rfl, hcs0⟩ := okWide_struct Tryz.underlying23 (hval 0 23 v0 rfl rfl);have g0 : DataW.trod enc Tryz.prog W 0 (fun _ => true) true fu0 23 cs0.toList = some (d0, p0) := hf0;obtain ⟨text, name, tT, nN, e0, hT, hN, htl, hnl⟩ := open_shape g0 hz0
 have ea0 : cs0 = #[.string (str text), .int .i64 tT, .int .i64 nN, .string (str name)] := by
  apply Array.ext';rw [e0]
 subst ea0;have T := of_laid hL;clear hA0 hval0 hL hsz hsz0;refine (prints_any text name tT nN hT hN (by omega) (by omega) W T).mono fun e W' ⟨he, bel⟩ => ?_;subst he;exact ⟨_, rfl, _, _, _, [], _, [], hW', trodAll_mk1 (shut_bool Tryz.underlying4 _), (trodAll_cons_mk (Below.trod laidOut (by kernel_rfl) (of_decide_eq_true (by kernel_rfl)) k0 bel lt0) trodAll_mk0), rfl, bel.frame _, fun h => by cases h⟩
theorem over : Rows.scriptPrintsRow.holds Tryz.pinned (OpenSpec.ofChange Rows.scriptPrintsSpec) :=
 OpenClaim.holds_of_wide 3 Tryz.f3 rfl rfl rfl rfl rfl rfl rfl ⟨rfl, rfl, rfl, rfl, rfl⟩ rfl rfl rfl rfl rfl (by kernel_rfl) Tryz.func3 (by kernel_rfl)
  (of_decide_eq_true (by kernel_rfl)) (by unfold Func.isWrapper; first | (rw [if_pos (by decide +kernel)]; kernel_rfl) | (rw [if_neg (by decide +kernel)]; exact ⟨rfl, rfl⟩))
  (fun os started H enc _ => lifted os started H enc)
theorem card : Rows.ScriptPrintsCardSaid :=
 Claim7.holds_tied_plain_at .later [] [.data, .data, .data, .data, .data, .data, .data, .data] true (true, "88da00083cecd1b5b8c0cfffc36ba053be052d37589b709dbae69e813c3d63c7") false
  over (fun _ h => by cases h) (by kernel_rfl) (fun _ h => by cases h) scriptPrints_row_tie rfl ⟨rfl, rfl⟩ (by kernel_rfl) rfl
  (fun f fn hf hfn => by
   obtain rfl : f = 3 := Option.some.inj ((show Tryz.prog.funcNamed "assize/assizelaw.ScriptPrints" = some 3 by kernel_rfl).symm.trans hf) |>.symm
   obtain rfl : fn = Tryz.f3 := (Option.some.inj (Tryz.func3.symm.trans hfn)).symm
   exact ⟨by kernel_rfl, fun j t ht => by
    rw [Tryz.params3] at ht;have hm : t ∈ [23] := by simpa using Array.mem_of_getElem? ht
    have hall : ([23].all fun u => !Tryz.prog.wantsStandIn u) = true := by kernel_rfl
    exact (show Tryz.prog.wantsStandIn t = false by simpa using List.all_eq_true.1 hall t hm)⟩)
  (by kernel_rfl)
end Go.Proofs.YthhpkjmhcolgfaaGreatDoor.scriptPrints
namespace Go.Proofs.YthhpkjmhcolgfaaGreatDoor
theorem scriptPrints_holds : Rows.ScriptPrintsCardSaid := scriptPrints.card
end Go.Proofs.YthhpkjmhcolgfaaGreatDoor
