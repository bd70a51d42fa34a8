/- ScriptBack: what is parsed is printed, and parsed again, and is the same. Conditions: nine tables start as the program's text lays them (the card ties them). -/
import Derived.Test.YtpofgnlkhkednaaGreatDoorRows
import Derived.Test.YtpofgnlkhkednaaGreatDoorCards
import Derived.Test.YtpofgnlkhkednaaGreatDoorTie
import Derived.Test.YtpofgnlkhkednaaGreatDoorM52
import Derived.ProofKit
import Derived.OpenShut
import Derived.ChangeOld
import Derived.ChangeArms
import Derived.ChangeMaps
import Derived.WideShapes
import Derived.Deep.Slices
import Derived.SizedLaws
import Derived.Lay
import Derived.Lib.LaidTab
import Derived.Stop.Joined
import Derived.SevenTiedAt
namespace Go.Proofs.YtpofgnlkhkednaaGreatDoor.scriptBack
open Go.ChangeShapes Go.WideShapes Go.ChangeAt Go.RowKit
open Go.ChangeMaps (open_string shut_string)
set_option linter.unusedVariables false
set_option maxRecDepth 20000
set_option maxHeartbeats 8000000
set_option linter.unusedSimpArgs false
theorem own : ownKnob Tryz.prog.godebug = none := by kernel_rfl
theorem laidOut : laidOutB Tryz.prog = true := by kernel_rfl
theorem Tryz.cellsG : Tryz.prog.cellsOf 9 = 1 := by kernel_rfl
theorem Tryz.cellsB : Tryz.prog.cellsOf 4 = 1 := by kernel_rfl
theorem Tryz.cellsI : Tryz.prog.cellsOf 3 = 1 := by kernel_rfl
theorem Tryz.cellsF : Tryz.prog.cellsOf 108 = 2 := by kernel_rfl
theorem Tryz.cellsS : Tryz.prog.cellsOf 99 = 6 := by kernel_rfl
theorem Tryz.cellsU : Tryz.prog.cellsOf 129 = 1 := by kernel_rfl
theorem Tryz.cellsW : Tryz.prog.cellsOf 135 = 20 := by kernel_rfl
def laid1 : List (String × DataW Unit) := [("math/bits.deBruijn32tab", Rows.laid_math_bits_deBruijn32tab), ("math/bits.deBruijn64tab", Rows.laid_math_bits_deBruijn64tab), ("internal/strconv.uint64pow10", Rows.laid_internal_strconv_uint64pow10), ("assize/script.exprFields", Rows.laid_assize_script_exprFields), ("assize/script.stepFields", Rows.laid_assize_script_stepFields), ("assize/script.kindWords", Rows.laid_assize_script_kindWords), ("assize/script.stepWords", Rows.laid_assize_script_stepWords), ("assize/script.exprWords", Rows.laid_assize_script_exprWords), ("assize/script.signs", Rows.laid_assize_script_signs)]
theorem str_eta (s : ByteArray) : s = str s.data.toList := by
 cases s; simp [str]
def svX (L : List Key) : List Value := L.map fun s => .string (str s)
theorem words_at {W : World} {g T n f : Nat} {cs : Array Value} {p : List MemPlace} {L : List Key} (hT : Tryz.prog.underlying T = some (.array n 9)) (hcell : ∀ off, W.cell? ⟨g, off, none⟩ = cs[off]?) (hL : L.length = n) (hd : DataW.trod (fun _ => ()) Tryz.prog W 0 (fun _ => true) false f T cs.toList = some (.agg (L.map fun s => .lit (.string s)), p)) : W.rangeAt g 0 (svX L) := fun j v hj => by
 obtain ⟨xs, m, _, hx, _, hn, hel⟩ := DataW.trod_array hT hd;simp only [svX, List.getElem?_map, Option.map_eq_some_iff] at hj;obtain ⟨s, hs, rfl⟩ := hj;have hjn : j < n := by rw [← hL]; exact (List.getElem?_eq_some_iff.1 hs).1
 have h1 := hel j hjn;rw [Tryz.cellsG, Nat.mul_one] at h1;obtain ⟨x, hxj⟩ : ∃ x, xs[j]? = some x := ⟨_, List.getElem?_eq_getElem (by omega)⟩;rw [hxj] at h1;obtain ⟨b, e0, d0, _⟩ := DataW.trod_string Tryz.underlying9 h1;simp only [Prod.mk.injEq, DataW.agg.injEq] at hx;have h3 := congrArg (fun l => l[j]?) hx.1;simp only [List.getElem?_map, hxj, hs, Option.map_some, Option.some.injEq, d0, DataW.lit.injEq, Lit.string.injEq] at h3;rw [Nat.zero_add, hcell]
 have h4 : (cs.toList.drop j)[0]? = some (.string b) := by
  have := congrArg (fun l => l[0]?) e0
  simpa using this
 rw [List.getElem?_drop, Nat.add_zero, Array.getElem?_toList] at h4;rw [h4, str_eta b, ← h3]
theorem forms_at {W : World} {g T n f : Nat} {cs : Array Value} {p : List MemPlace} {L : List (Bool × Int)} (hT : Tryz.prog.underlying T = some (.array n 108)) (hcell : ∀ off, W.cell? ⟨g, off, none⟩ = cs[off]?) (hL : L.length = n) (hd : DataW.trod (fun _ => ()) Tryz.prog W 0 (fun _ => true) false f T cs.toList = some (.agg (L.map fun s => .agg [.lit (.bool s.1), .lit (.int .i64 s.2)]), p)) : W.rangeAt g 0 (flatF L) := by
 obtain ⟨xs, m, _, hx, _, hn, hel⟩ := DataW.trod_array hT hd;simp only [Prod.mk.injEq, DataW.agg.injEq] at hx
 have key : ∀ j s, L[j]? = some s → W.cell? ⟨g, 2 * j, none⟩ = some (.bool s.1) ∧ W.cell? ⟨g, 2 * j + 1, none⟩ = some (.int .i64 s.2) := fun j s hs => by
  have hjn : j < n := by rw [← hL]; exact (List.getElem?_eq_some_iff.1 hs).1
  have h1 := hel j hjn;rw [Tryz.cellsF] at h1;obtain ⟨x, hxj⟩ : ∃ x, xs[j]? = some x := ⟨_, List.getElem?_eq_getElem (by omega)⟩;rw [hxj] at h1;obtain ⟨ys, m2, _, hy, hc, hl2, hfs⟩ := DataW.trod_struct Tryz.underlying108 h1;rw [Tryz.cellsF] at hc
  obtain ⟨z0, z1, hz⟩ : ∃ z0 z1, (cs.toList.drop (j * 2)).take 2 = [z0, z1] := by
   match (cs.toList.drop (j * 2)).take 2, hc with
   | [a, b], _ => exact ⟨a, b, rfl⟩
  obtain ⟨y0, y1, rfl⟩ : ∃ y0 y1, ys = [y0, y1] := by
   match ys, (show ys.length = 2 by simpa using hl2) with
   | [a, b], _ => exact ⟨a, b, rfl⟩
  rw [hz] at hfs;have g0 := hfs 0 _ rfl;simp [Tryz.cellsB] at g0;have g1 := hfs 1 _ rfl;simp [Tryz.cellsI] at g1;obtain ⟨n0, e0, d0⟩ := DataW.trod_bool Tryz.underlying4 g0;obtain ⟨n1, e1, d1, _⟩ := DataW.trod_int Tryz.underlying3 g1;simp only [List.cons.injEq, and_true] at e0 e1;subst e0 e1;have h3 := congrArg (fun l => l[j]?) hx.1;simp only [List.getElem?_map, hxj, hs, Option.map_some, Option.some.injEq] at h3;rw [hy] at h3;simp only [List.map_cons, List.map_nil, d0, d1, DataW.agg.injEq, List.cons.injEq, DataW.lit.injEq, Lit.int.injEq, Lit.bool.injEq, true_and, and_true] at h3;obtain ⟨f0, f1⟩ := h3
  have at_ : ∀ i, i < 2 → cs[j * 2 + i]? = [Value.bool n0, .int .i64 n1][i]? := by
   intro i hi;rw [← hz, List.getElem?_take_of_lt hi, List.getElem?_drop, Array.getElem?_toList]
  have a0 := at_ 0 (by omega);have a1 := at_ 1 (by omega);simp only [List.getElem?_cons_succ, List.getElem?_cons_zero, Nat.add_zero] at a0 a1;rw [f0, f1, hcell, hcell, Nat.mul_comm];exact ⟨a0, a1⟩
 clear hd hx hel hn hL hT hcell
 suffices H : ∀ (L : List (Bool × Int)) (b : Nat), (∀ j s, L[j]? = some s → W.cell? ⟨g, b + 2 * j, none⟩ = some (.bool s.1) ∧ W.cell? ⟨g, b + 2 * j + 1, none⟩ = some (.int .i64 s.2)) → W.rangeAt g b (flatF L) by
  exact H L 0 fun j s hs => by simpa using key j s hs
 intro L
 induction L with
 | nil => exact fun b _ j v hj => by cases hj
 | cons s r ih =>
  intro b hb j v hj;obtain ⟨x, y⟩ := s;have h0 := hb 0 _ rfl
  match j, hj with
  | 0, hj => simp only [flatF, List.getElem?_cons_zero, Option.some.injEq] at hj; subst hj; exact h0.1
  | 1, hj => simp only [flatF, List.getElem?_cons_succ, List.getElem?_cons_zero, Option.some.injEq] at hj; subst hj; exact h0.2
  | j + 2, hj =>
   have hj : (flatF r)[j]? = some v := by simpa [flatF] using hj
   have := ih (b + 2) (fun i s hs => by
    have := hb (i + 1) s (by simpa using hs);rw [show b + 2 * (i + 1) = b + 2 + 2 * i by omega] at this
    exact this) j v hj
   rw [show b + (j + 2) = b + 2 + j by omega];exact this
theorem tabW_of {W : World} {g n : Nat} {L : List Key} {f : Int → Key} (r : W.rangeAt g 0 (svX L)) (h : ∀ k : Nat, k < n → L[k]? = some (f (k : Int))) : TabW W g n f := fun k hk => by
 have := r k (.string (str (f (k : Int)))) (by rw [svX, List.getElem?_map, h k hk]; rfl);rw [Nat.zero_add] at this;exact this
def flatS : List (Bool × Bool × Bool × Bool × Bool × Int) → List Value
 | [] => []
 | s :: r => .bool s.1 :: .bool s.2.1 :: .bool s.2.2.1 :: .bool s.2.2.2.1 :: .bool s.2.2.2.2.1 :: .int .i64 s.2.2.2.2.2 :: flatS r
theorem six_of {α : Type} {l : List α} (h : l.length = 6) : ∃ a b c d e f, l = [a, b, c, d, e, f] := by
 match l, h with
 | [a, b, c, d, e, f], _ => exact ⟨a, b, c, d, e, f, rfl⟩
theorem four_ofX {α : Type} {l : List α} (h : l.length = 4) : ∃ a b c d, l = [a, b, c, d] := by
 match l, h with
 | [a, b, c, d], _ => exact ⟨a, b, c, d, rfl⟩
theorem steps_at {W : World} {g T n f : Nat} {cs : Array Value} {p : List MemPlace} {L : List (Bool × Bool × Bool × Bool × Bool × Int)} (hT : Tryz.prog.underlying T = some (.array n 99)) (hcell : ∀ off, W.cell? ⟨g, off, none⟩ = cs[off]?) (hL : L.length = n) (hd : DataW.trod (fun _ => ()) Tryz.prog W 0 (fun _ => true) false f T cs.toList = some (.agg (L.map fun s => .agg [.lit (.bool s.1), .lit (.bool s.2.1), .lit (.bool s.2.2.1), .lit (.bool s.2.2.2.1), .lit (.bool s.2.2.2.2.1), .lit (.int .i64 s.2.2.2.2.2)]), p)) : W.rangeAt g 0 (flatS L) := by
 obtain ⟨xs, m, _, hx, _, hn, hel⟩ := DataW.trod_array hT hd;simp only [Prod.mk.injEq, DataW.agg.injEq] at hx
 have key : ∀ j s, L[j]? = some s → ∀ i, i < 6 → W.cell? ⟨g, 6 * j + i, none⟩ = (flatS [s])[i]? := fun j s hs => by
  have hjn : j < n := by rw [← hL]; exact (List.getElem?_eq_some_iff.1 hs).1
  have h1 := hel j hjn;rw [Tryz.cellsS] at h1;obtain ⟨x, hxj⟩ : ∃ x, xs[j]? = some x := ⟨_, List.getElem?_eq_getElem (by omega)⟩;rw [hxj] at h1;obtain ⟨ys, m2, _, hy, hc, hl2, hfs⟩ := DataW.trod_struct Tryz.underlying99 h1;rw [Tryz.cellsS] at hc;obtain ⟨z0, z1, z2, z3, z4, z5, hz⟩ := six_of hc;obtain ⟨y0, y1, y2, y3, y4, y5, rfl⟩ := six_of (l := ys) (by simpa using hl2);rw [hz] at hfs;have g0 := hfs 0 _ rfl;simp [Tryz.cellsB, Tryz.cellsI] at g0;have g1 := hfs 1 _ rfl;simp [Tryz.cellsB, Tryz.cellsI] at g1;have g2 := hfs 2 _ rfl;simp [Tryz.cellsB, Tryz.cellsI] at g2;have g3 := hfs 3 _ rfl;simp [Tryz.cellsB, Tryz.cellsI] at g3;have g4 := hfs 4 _ rfl;simp [Tryz.cellsB, Tryz.cellsI] at g4;have g5 := hfs 5 _ rfl;simp [Tryz.cellsB, Tryz.cellsI] at g5;obtain ⟨n0, e0, d0⟩ := DataW.trod_bool Tryz.underlying4 g0;obtain ⟨n1, e1, d1⟩ := DataW.trod_bool Tryz.underlying4 g1;obtain ⟨n2, e2, d2⟩ := DataW.trod_bool Tryz.underlying4 g2;obtain ⟨n3, e3, d3⟩ := DataW.trod_bool Tryz.underlying4 g3;obtain ⟨n4, e4, d4⟩ := DataW.trod_bool Tryz.underlying4 g4;obtain ⟨n5, e5, d5, _⟩ := DataW.trod_int Tryz.underlying3 g5;simp only [List.cons.injEq, and_true] at e0 e1 e2 e3 e4 e5;subst e0 e1 e2 e3 e4 e5;have h3 := congrArg (fun l => l[j]?) hx.1;simp only [List.getElem?_map, hxj, hs, Option.map_some, Option.some.injEq] at h3;rw [hy] at h3;simp only [List.map_cons, List.map_nil, d0, d1, d2, d3, d4, d5, DataW.agg.injEq, List.cons.injEq, DataW.lit.injEq, Lit.int.injEq, Lit.bool.injEq, true_and, and_true] at h3;obtain ⟨f0, f1, f2, f3, f4, f5⟩ := h3;intro i hi;rw [hcell, Nat.mul_comm]
  have a : cs[j * 6 + i]? = [Value.bool n0, .bool n1, .bool n2, .bool n3, .bool n4, .int .i64 n5][i]? := by
   rw [← hz, List.getElem?_take_of_lt hi, List.getElem?_drop, Array.getElem?_toList]
  rw [a, ← f0, ← f1, ← f2, ← f3, ← f4, ← f5];rfl
 clear hd hx hel hn hL hT hcell
 suffices H : ∀ (L : List (Bool × Bool × Bool × Bool × Bool × Int)) (b : Nat), (∀ j s, L[j]? = some s → ∀ i, i < 6 → W.cell? ⟨g, b + 6 * j + i, none⟩ = (flatS [s])[i]?) → W.rangeAt g b (flatS L) by
  exact H L 0 fun j s hs i hi => by have := key j s hs i hi; rwa [Nat.zero_add]
 intro L
 induction L with
 | nil => exact fun b _ j v hj => by cases hj
 | cons s r ih =>
  intro b hb j v hj
  by_cases h6 : j < 6
  ·have h0 := hb 0 s rfl j h6;rw [Nat.mul_zero, Nat.add_zero] at h0;rw [h0];have e : flatS (s :: r) = flatS [s] ++ flatS r := rfl;rw [e, List.getElem?_append_left (by exact h6)] at hj;exact hj
  ·have e : flatS (s :: r) = flatS [s] ++ flatS r := rfl;rw [e, List.getElem?_append_right (by show 6 ≤ j; omega)] at hj;have hj : (flatS r)[j - 6]? = some v := hj
   have := ih (b + 6) (fun i s hs q hq => by
    have := hb (i + 1) s (by simpa using hs) q hq;rw [show b + 6 * (i + 1) + q = b + 6 + 6 * i + q by omega] at this
    exact this) (j - 6) v hj
   rw [show b + j = b + 6 + (j - 6) by omega];exact this
def sfL : List (Bool × Bool × Bool × Bool × Bool × Int) := [(false, false, false, false, false, 0), (true, true, false, false, false, 1), (true, false, false, false, false, 1), (true, false, false, false, false, 2), (false, false, false, true, true, 1), (false, false, false, true, false, 1), (false, false, false, false, false, 1), (false, false, false, false, false, 1), (false, false, false, false, false, 2), (false, false, false, false, false, 1), (true, false, true, false, false, 3)]
theorem of_laid {W : World} (h : laidMetH Tryz.prog laid1 W) : Gl W ∧ GlP W := by
 rw [MakeChecks.laidMetH_plain _ _ _ (by kernel_rfl)] at h;obtain ⟨ps, ⟨ga, ta, csa, fa, pa, qa, hga, hta, hva, hda, ⟨gb, tb, csb, fb, pb, qb, hgb, htb, hvb, hdb, ⟨gc, tc, csc, fc, pc, qc, hgc, htc, hvc, hdc, ⟨g4, t4, cs4, f4, p4, q4, hg4, ht4, hv4, hd4, ⟨g1, t1, cs1, f1, p1, q1, hg1, ht1, hv1, hd1, ⟨g0, t0, cs0, f0, p0, q0, hg0, ht0, hv0, hd0, ⟨g5, t5, cs5, f5, p5, q5, hg5, ht5, hv5, hd5, ⟨g6, t6, cs6, f6, p6, q6, hg6, ht6, hv6, hd6, ⟨gs, ts, css, fs, ps, qs, hgs, hts, hvs, hds, _⟩, _⟩, _⟩, _⟩, _⟩, _⟩, _⟩, _⟩, _⟩, _, _⟩ := h;obtain rfl := Option.some.inj ((show Tryz.prog.globalNamed "assize/script.kindWords" = some 0 by kernel_rfl).symm.trans hg0);obtain rfl := Option.some.inj ((show Tryz.prog.globalNamed "assize/script.stepFields" = some 2 by kernel_rfl).symm.trans hg1);obtain rfl := Option.some.inj ((show Tryz.prog.globalNamed "assize/script.exprFields" = some 3 by kernel_rfl).symm.trans hg4);obtain rfl := Option.some.inj ((show Tryz.prog.globalNamed "assize/script.stepWords" = some 4 by kernel_rfl).symm.trans hg5);obtain rfl := Option.some.inj ((show Tryz.prog.globalNamed "assize/script.exprWords" = some 5 by kernel_rfl).symm.trans hg6);obtain rfl := Option.some.inj ((show Tryz.prog.globalNamed "assize/script.signs" = some 1 by kernel_rfl).symm.trans hgs);obtain rfl := Option.some.inj ((show (Tryz.prog.globals[0]?).map (·.type) = some 73 by kernel_rfl).symm.trans ht0);obtain rfl := Option.some.inj ((show (Tryz.prog.globals[2]?).map (·.type) = some 100 by kernel_rfl).symm.trans ht1);obtain rfl := Option.some.inj ((show (Tryz.prog.globals[3]?).map (·.type) = some 109 by kernel_rfl).symm.trans ht4);obtain rfl := Option.some.inj ((show (Tryz.prog.globals[4]?).map (·.type) = some 111 by kernel_rfl).symm.trans ht5);obtain rfl := Option.some.inj ((show (Tryz.prog.globals[5]?).map (·.type) = some 124 by kernel_rfl).symm.trans ht6);obtain rfl := Option.some.inj ((show (Tryz.prog.globals[1]?).map (·.type) = some 84 by kernel_rfl).symm.trans hts)
 have htc' : tc = 135 := by
  have e : (Tryz.prog.globalNamed "internal/strconv.uint64pow10").bind (fun g => (Tryz.prog.globals[g]?).map (·.type)) = some 135 := by kernel_rfl
  rw [hgc] at e;simp only [Option.bind_some] at e;exact Option.some.inj (htc.symm.trans e)
 subst htc';have r0 : W.rangeAt 0 0 (sv kindL) := words_at Tryz.underlying73 (World.var?_cell hg0 hv0) rfl hd0;have r1 : W.rangeAt 2 0 (flatS sfL) := steps_at Tryz.underlying100 (World.var?_cell hg1 hv1) rfl hd1;have r4 : W.rangeAt 3 0 (flatF formL) := forms_at Tryz.underlying109 (World.var?_cell hg4 hv4) rfl hd4;have r5 : W.rangeAt 4 0 (sv stepL) := words_at Tryz.underlying111 (World.var?_cell hg5 hv5) rfl hd5;have r6 : W.rangeAt 5 0 (sv exprL) := words_at Tryz.underlying124 (World.var?_cell hg6 hv6) rfl hd6;have rs : W.rangeAt 1 0 (sv signL) := words_at Tryz.underlying84 (World.var?_cell hgs hvs) rfl hds
 have rp : PowT W := by
  have e : csc.toList = Lib.pow10Tab.map fun z => Value.int .u64 z := Lib.cells_of_tab (zs := Lib.pow10Tab) Tryz.underlying135 Tryz.underlying129 Tryz.cellsU Tryz.cellsW hdc;unfold PowT Lib.TabIs;rw [hvc, ← e]
 have hz : 9 ≤ W.heap.size := by
  have e : Tryz.prog.globalNamed "math/bits.deBruijn64tab" = some (9 - 1) := by kernel_rfl
  unfold World.var? at hvb;rw [e] at hvb;simp only [Option.bind_some] at hvb
  by_cases q : 9 ≤ W.heap.size
  ·exact q
  ·rw [Array.getElem?_eq_none (by omega)] at hvb;cases hvb
 refine ⟨⟨hz, fun g hg => ?_⟩, ⟨tabW_of r0 (by decide), tabW_of r5 (by decide), tabW_of r6 (by decide), World.block_lt_of_cell? W _ (r6 0 (.string (str [])) rfl)⟩, rp, r4, r1⟩
 rcases (show g = 0 ∨ g = 1 ∨ g = 4 ∨ g = 3 ∨ g = 5 ∨ tabV g = [] by
  rcases (show g = 0 ∨ g = 1 ∨ g = 2 ∨ g = 3 ∨ g = 4 ∨ g = 5 ∨ g = 6 ∨ g = 7 ∨ g = 8 by omega) with rfl | rfl | rfl | rfl | rfl | rfl | rfl | rfl | rfl <;> simp [tabV]) with rfl | rfl | rfl | rfl | rfl | h
 ·exact r0
 ·exact rs
 ·exact r5
 ·exact r4
 ·exact r6
 ·rw [h];intro j v hj;cases hj
theorem lifted (os : Os) (started : os.Started) (H : Type) (enc : TypeId × Value → H) :
  ReturnsInHanded {} Tryz.checked os 3 .any (fun w args => (Rows.scriptBackSpec.pre enc Tryz.prog Tryz.f3 [] false w args ∧ laidMetH Tryz.prog laid1 w) ∧ sizedMet enc Tryz.prog Tryz.f3 (OpenSpec.ofChange Rows.scriptBackSpec) false w args)
   (Rows.scriptBackSpec.post enc Tryz.prog Tryz.f3 false true false false) := by
 refine returnsInHanded_of_change_and (C := Tryz.checked) (X := fun w _ => laidMetH Tryz.prog laid1 w) (fun _ _ _ hh h => h.of_heap hh) own started (by kernel_rfl) Tryz.func3
  (ChangeSpec.witness_shaped (enc := enc) (C := Tryz.checked) (os := os) (X := fun w _ => laidMetH Tryz.prog laid1 w) false (World.laidAll Tryz.prog os laid1) #[.string ⟨#[]⟩] 8 (World.laidAll_os _ _ _)
   (World.shaped_of_ZipB (by kernel_rfl) (by kernel_rfl)) (by kernel_rfl) (by kernel_rfl) (by kernel_rfl)
   (by rw [MakeChecks.laidMetH_plain _ _ _ (by kernel_rfl)]; exact laidMet_laidAll _ (by kernel_rfl) (by kernel_rfl))) ?_
 intro W base args ds gs before hval0 hW _ _ hL _;have hval : ∀ (j : Nat) t v, Tryz.f3.params[j]? = some t → args[j]? = some v → Value.okWide Tryz.prog W .any base t v := hval0;have hW' := hW;obtain ⟨p, q, hA0, hV, rfl, hfz, hnd⟩ := hW;have hA : DataW.TrodAll enc Tryz.prog W 0 (fun _ => true) true Tryz.f3.params.toList args.toList ds p := hA0;rw [Tryz.params3] at hA hval;obtain ⟨v0, vs0, d0, ds0, p0, q0, hargs, rfl, rfl, h0, r0⟩ := trodAll_cons hA;obtain ⟨rfl, rfl, rfl⟩ := trodAll_nil r0;obtain rfl : args = #[v0] := by cases args; simp_all
 obtain ⟨rfl, rfl⟩ := trodVars_none hV;obtain ⟨s0, rfl, rfl, rfl, w0⟩ := open_string Tryz.underlying9 (hval 0 9 v0 rfl rfl) h0;have T := of_laid hL;clear hA0 hval0 hA hval;have hs := str_eta s0;have C := backs_any s0.data.toList W T.1 T.2;rw [← hs] at C;refine C.mono fun e W' ⟨he, bel⟩ => ?_;subst he;exact ⟨_, rfl, _, _, _, [], _, [], hW', trodAll_mk1 (shut_bool Tryz.underlying4 _), (trodAll_cons_mk (shut_string Tryz.underlying9 w0) trodAll_mk0), rfl, bel.frame _, fun h => by cases h⟩
theorem over : Rows.scriptBackRow.holds Tryz.pinned (OpenSpec.ofChange Rows.scriptBackSpec) :=
 OpenClaim.holds_of_wide 3 Tryz.f3 rfl rfl rfl rfl rfl rfl rfl ⟨rfl, rfl, rfl, rfl, rfl⟩ rfl rfl rfl rfl rfl (by kernel_rfl) Tryz.func3 (by kernel_rfl)
  (of_decide_eq_true (by kernel_rfl)) (by unfold Func.isWrapper; first | (rw [if_pos (by decide +kernel)]; kernel_rfl) | (rw [if_neg (by decide +kernel)]; exact ⟨rfl, rfl⟩))
  (fun os started H enc _ => lifted os started H enc)
theorem card : Rows.ScriptBackCardSaid :=
 Claim7.holds_tied_plain_at .later [] [.data, .data, .data, .data, .data, .data, .data, .data, .data] true (true, "dd1c0c8b4fb9610afab677e3832dca64dacc9e1206c2fe18e4dae9ded0db95d4") false
  over (fun _ h => by cases h) (by kernel_rfl) (fun _ h => by cases h) scriptBack_row_tie rfl ⟨rfl, rfl⟩ (by kernel_rfl) rfl
  (fun f fn hf hfn => by
   obtain rfl : f = 3 := Option.some.inj ((show Tryz.prog.funcNamed "assize/assizelaw.ScriptBack" = some 3 by kernel_rfl).symm.trans hf) |>.symm
   obtain rfl : fn = Tryz.f3 := (Option.some.inj (Tryz.func3.symm.trans hfn)).symm
   exact ⟨by kernel_rfl, fun j t ht => by
    rw [Tryz.params3] at ht;have hm : t ∈ [9] := by simpa using Array.mem_of_getElem? ht
    have hall : ([9].all fun u => !Tryz.prog.wantsStandIn u) = true := by kernel_rfl
    exact (show Tryz.prog.wantsStandIn t = false by simpa using List.all_eq_true.1 hall t hm)⟩)
  (by kernel_rfl)
end Go.Proofs.YtpofgnlkhkednaaGreatDoor.scriptBack
namespace Go.Proofs.YtpofgnlkhkednaaGreatDoor
theorem scriptBack_holds : Rows.ScriptBackCardSaid := scriptBack.card
end Go.Proofs.YtpofgnlkhkednaaGreatDoor
