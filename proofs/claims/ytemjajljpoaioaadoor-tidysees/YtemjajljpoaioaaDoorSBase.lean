import Derived.Test.YtemjajljpoaioaaDoorProg
import Derived.Deep.AppendLies
import Derived.Deep.CutRange
import Derived.Deep.DeepCutAuto
import Derived.Deep.MidRow
import Derived.Deep.RegionLaw
import Derived.Deep.WholeRow
import Derived.Great.BuildSlice
import Derived.Laws.BytesArg
import Derived.Laws.Tables
import Derived.Lib.AppendStr
import Derived.RowKit3
import Derived.WalkKit
import Derived.WalkSmall
namespace Go.Proofs.YtemjajljpoaioaaDoor
open Go.RowKit
set_option linter.unusedVariables false
set_option linter.unusedSimpArgs false
set_option maxRecDepth 20000
set_option maxHeartbeats 8000000
def Blk (w : World) (b : Nat) (cs : Array Value) (t : TypeId) : Prop := w.heap[b]? = some (.cells cs t (0, 0))
theorem Blk.lt {w : World} {b : Nat} {cs : Array Value} {t : TypeId} (h : Blk w b cs t) : b < w.heap.size := (Array.getElem?_eq_some_iff.1 h).1
theorem Blk.cell {w : World} {b : Nat} {cs : Array Value} {t : TypeId} (h : Blk w b cs t) (i : Nat) : w.cell? ⟨b, i, none⟩ = cs[i]? := by
 unfold Blk at h; simp [World.cell?, h]
theorem Blk.frozen {w : World} {b : Nat} {cs : Array Value} {t : TypeId} (h : Blk w b cs t) (i : Nat) : w.frozen? ⟨b, i, none⟩ = false := by
 unfold Blk at h; simp [World.frozen?, h]
theorem Blk.below {w w' : World} {B b : Nat} {cs : Array Value} {t : TypeId} (h : Blk w b cs t) (hb : Below B w w') (hlt : b < B) : Blk w' b cs t := by
 unfold Blk at *; rw [hb.block b hlt]; exact h
theorem Blk.grown {w w' : World} {row : Option Nat} {b : Nat} {cs : Array Value} {t : TypeId} (h : Blk w b cs t) (hg : w.grownBy w' row) (hne : row ≠ some b) : Blk w' b cs t := by
 have hl := h.lt
 unfold Blk at *; rw [hg.block b hl (fun e => hne e.symm)]; exact h
theorem Blk.drew {w : World} {b : Nat} {cs : Array Value} {t : TypeId} (h : Blk w b cs t) : Blk w.drew b cs t := h
theorem Blk.new (w : World) (cs : Array Value) (t : TypeId) : Blk (w.alloc (.cells cs t)) w.heap.size cs t := by
 show (w.heap.push _)[w.heap.size]? = _; simp
theorem Blk.alloc {w : World} {b : Nat} {cs : Array Value} {t : TypeId} (h : Blk w b cs t) (o : Obj) : Blk (w.alloc o) b cs t := by
 have hl := h.lt
 unfold Blk at *; rw [Below.heap_alloc _ _ _ hl]; exact h
theorem Blk.set {w : World} {b : Nat} {cs : Array Value} {t : TypeId} (h : Blk w b cs t) (i : Nat) (v : Value) : Blk (w.setCell ⟨b, i, none⟩ v) b (cs.setIfInBounds i v) t := by
 unfold Blk at *
 simp [World.setCell, Array.getElem?_modify, h]
theorem Blk.setOther {w : World} {b : Nat} {cs : Array Value} {t : TypeId} (h : Blk w b cs t) (a : Addr) (hne : b ≠ a.block) (v : Value) : Blk (w.setCell a v) b cs t := by
 unfold Blk at *; rw [Below.heap_setCell _ _ _ _ hne]; exact h
theorem owns_below {w w' : World} {base : Nat} {e : TypeId} {size : Nat} {v : Value} {n : Nat} {xs : List Value} (h : w.ownsRow base e size v n xs) (hb : Below w.heap.size w w') : w'.ownsRow base e size v n xs := by
 obtain ⟨h1, h2⟩ := h
 refine ⟨h1, ?_⟩
 rcases h2 with h2 | ⟨g, cap, cur, e1, e2, e3, e4⟩
 ·exact .inl h2
 ·exact .inr ⟨g, cap, cur, e1, e2, by rw [hb.block g (Array.getElem?_eq_some_iff.1 e3).1]; exact e3, e4⟩
structure But (S : Nat → Prop) (w w' : World) : Prop where
 os : w'.os = w.os
 tape : w'.tape = w.tape
 output : w'.output = w.output
 size : w.heap.size ≤ w'.heap.size
 block : ∀ k, k < w.heap.size → ¬ S k → w'.heap[k]? = w.heap[k]?
theorem But.of_below {S : Nat → Prop} {w w' : World} (h : Below w.heap.size w w') : But S w w' := ⟨h.os, h.tape, h.output, h.size, fun k hk _ => h.block k hk⟩
theorem But.refl (S : Nat → Prop) (w : World) : But S w w := ⟨rfl, rfl, rfl, Nat.le_refl _, fun _ _ _ => rfl⟩
theorem But.trans {S : Nat → Prop} {a b c : World} (h : But S a b) (k : But S b c) : But S a c :=
 ⟨k.os.trans h.os, k.tape.trans h.tape, k.output.trans h.output, Nat.le_trans h.size k.size, fun i hi hn => (k.block i (Nat.lt_of_lt_of_le hi h.size) hn).trans (h.block i hi hn)⟩
theorem But.trans_new {S T : Nat → Prop} {a b c : World} (h : But S a b) (k : But T b c) (hs : ∀ k, k < a.heap.size → T k → S k) : But S a c :=
 ⟨k.os.trans h.os, k.tape.trans h.tape, k.output.trans h.output, Nat.le_trans h.size k.size, fun i hi hn => (k.block i (Nat.lt_of_lt_of_le hi h.size) (fun q => hn (hs i hi q))).trans (h.block i hi hn)⟩
theorem But.set {S : Nat → Prop} (w : World) {p : Addr} (hp : S p.block) (v : Value) : But S w (w.setCell p v) :=
 ⟨rfl, rfl, rfl, by rw [World.size_setCell]; exact Nat.le_refl _, fun k hk hn => Below.heap_setCell _ _ _ _ (fun e => hn (by rw [e]; exact hp))⟩
theorem But.mono {S T : Nat → Prop} {w w' : World} (h : But S w w') (hs : ∀ k, S k → T k) : But T w w' := ⟨h.os, h.tape, h.output, h.size, fun k hk hn => h.block k hk (fun q => hn (hs k q))⟩
theorem But.below {S : Nat → Prop} {w w' : World} (h : But S w w') {B : Nat} (hB : B ≤ w.heap.size) (hs : ∀ k, S k → B ≤ k) : Below B w w' :=
 ⟨h.os, h.tape, h.output, h.size, fun k hk => h.block k (by omega) (fun q => by have := hs k q; omega)⟩
theorem But.blk {S : Nat → Prop} {w w' : World} (h : But S w w') {b : Nat} {cs : Array Value} {t : TypeId} (k : Blk w b cs t) (hb : ¬ S b) : Blk w' b cs t := by
 have := h.block b k.lt hb
 unfold Blk at *
 rw [this]; exact k
theorem But.cell {S : Nat → Prop} {w w' : World} (h : But S w w') {p : Addr} (hp : p.block < w.heap.size) (hb : ¬ S p.block) : w'.cell? p = w.cell? p := by
 have := h.block _ hp hb
 unfold World.cell?
 rw [this]
inductive Fld where
 | i (n : Int)
 | d (n : Int)
 | b (x : Bool)
 | s (t : List UInt8)
 | l (la : Option Addr) (lc : Nat) (es : List (List Fld))
def Fld.val : Fld → Value
 | .i n => .int .i64 n
 | .d n => .int .u64 n
 | .b x => .bool x
 | .s t => .string ⟨t.toArray⟩
 | .l la lc es => .slice la es.length lc
inductive Pv where
 | i (n : Int)
 | d (n : Int)
 | b (x : Bool)
 | s (t : List UInt8)
 | l (es : List (List Pv))
mutual
def Fld.pv : Fld → Pv
 | .i n => .i n
 | .d n => .d n
 | .b x => .b x
 | .s t => .s t
 | .l _ _ es => .l (pvRows es)
def pvRows : List (List Fld) → List (List Pv)
 | [] => []
 | e :: es => pvAll e :: pvRows es
def pvAll : List Fld → List Pv
 | [] => []
 | f :: fs => f.pv :: pvAll fs
end
mutual
def Fld.lies (lo : Nat) (w : World) : Fld → Prop
 | .i n => -9223372036854775808 ≤ n ∧ n ≤ 9223372036854775807
 | .d n => 0 ≤ n ∧ n ≤ 18446744073709551615
 | .b _ => True
 | .s _ => True
 | .l la lc es => es.length ≤ lc ∧ lc ≤ maxLen ∧ (es = [] ∨ ∃ rb ro, la = some ⟨rb, ro, none⟩ ∧ lo ≤ rb ∧ rb < w.heap.size ∧ rowsLie lo w rb ro es)
def rowsLie (lo : Nat) (w : World) (rb : Nat) : Nat → List (List Fld) → Prop
 | _, [] => True
 | ro, e :: es => cellsLie lo w rb ro e ∧ rowsLie lo w rb (ro + e.length) es
def cellsLie (lo : Nat) (w : World) (rb : Nat) : Nat → List Fld → Prop
 | _, [] => True
 | o, f :: fs => w.cell? ⟨rb, o, none⟩ = some f.val ∧ f.lies lo w ∧ cellsLie lo w rb (o + 1) fs
end
structure Hi (lo : Nat) (w w' : World) : Prop where
 size : w.heap.size ≤ w'.heap.size
 block : ∀ k, lo ≤ k → k < w.heap.size → w'.heap[k]? = w.heap[k]?
theorem Hi.of_but {S : Nat → Prop} {lo : Nat} {w w' : World} (h : But S w w') (hs : ∀ k, S k → k < lo) : Hi lo w w' := ⟨h.size, fun k h1 h2 => h.block k h2 (fun q => by have := hs k q; omega)⟩
theorem Hi.of_below {lo : Nat} {w w' : World} (h : Below w.heap.size w w') : Hi lo w w' := ⟨h.size, fun k _ h2 => h.block k h2⟩
mutual
theorem Fld.lies_hi {lo : Nat} {w w' : World} (hb : Hi lo w w') : ∀ f : Fld, f.lies lo w → f.lies lo w'
 | .i _, h => h
 | .d _, h => h
 | .b _, _ => trivial
 | .s _, _ => trivial
 | .l la lc es, h => by
  obtain ⟨h1, h2, h3⟩ := h
  refine ⟨h1, h2, ?_⟩
  rcases h3 with h3 | ⟨rb, ro, e, hl, hz, hr⟩
  ·exact .inl h3
  ·exact .inr ⟨rb, ro, e, hl, Nat.lt_of_lt_of_le hz hb.size, rowsLie_hi hb rb hl hz ro es hr⟩
theorem rowsLie_hi {lo : Nat} {w w' : World} (hb : Hi lo w w') (rb : Nat) (hl : lo ≤ rb) (hz : rb < w.heap.size) : ∀ (ro : Nat) (es : List (List Fld)), rowsLie lo w rb ro es → rowsLie lo w' rb ro es
 | _, [], _ => trivial
 | ro, e :: es, h => ⟨cellsLie_hi hb rb hl hz ro e h.1, rowsLie_hi hb rb hl hz (ro + e.length) es h.2⟩
theorem cellsLie_hi {lo : Nat} {w w' : World} (hb : Hi lo w w') (rb : Nat) (hl : lo ≤ rb) (hz : rb < w.heap.size) : ∀ (o : Nat) (fs : List Fld), cellsLie lo w rb o fs → cellsLie lo w' rb o fs
 | _, [], _ => trivial
 | o, f :: fs, h => ⟨(World.cell?_of_block (w := w) (a := ⟨rb, o, none⟩) (hb.block rb hl hz)).trans h.1, Fld.lies_hi hb f h.2.1, cellsLie_hi hb rb hl hz (o + 1) fs h.2.2⟩
end
mutual
theorem Fld.lies_mono {lo lo' : Nat} {w : World} (hb : lo' ≤ lo) : ∀ f : Fld, f.lies lo w → f.lies lo' w
 | .i _, h => h
 | .d _, h => h
 | .b _, _ => trivial
 | .s _, _ => trivial
 | .l la lc es, h => by
  obtain ⟨h1, h2, h3⟩ := h
  refine ⟨h1, h2, ?_⟩
  rcases h3 with h3 | ⟨rb, ro, e, hl, hz, hr⟩
  ·exact .inl h3
  ·exact .inr ⟨rb, ro, e, Nat.le_trans hb hl, hz, rowsLie_mono hb rb ro es hr⟩
theorem rowsLie_mono {lo lo' : Nat} {w : World} (hb : lo' ≤ lo) (rb : Nat) : ∀ (ro : Nat) (es : List (List Fld)), rowsLie lo w rb ro es → rowsLie lo' w rb ro es
 | _, [], _ => trivial
 | ro, e :: es, h => ⟨cellsLie_mono hb rb ro e h.1, rowsLie_mono hb rb (ro + e.length) es h.2⟩
theorem cellsLie_mono {lo lo' : Nat} {w : World} (hb : lo' ≤ lo) (rb : Nat) : ∀ (o : Nat) (fs : List Fld), cellsLie lo w rb o fs → cellsLie lo' w rb o fs
 | _, [], _ => trivial
 | o, f :: fs, h => ⟨h.1, Fld.lies_mono hb f h.2.1, cellsLie_mono hb rb (o + 1) fs h.2.2⟩
end
def lieAll (lo : Nat) (w : World) (fs : List Fld) : Prop := ∀ f ∈ fs, f.lies lo w
theorem lieAll.hi {lo : Nat} {w w' : World} {fs : List Fld} (h : lieAll lo w fs) (hb : Hi lo w w') : lieAll lo w' fs := fun f hf => Fld.lies_hi hb f (h f hf)
theorem lieAll.mono {lo lo' : Nat} {w : World} {fs : List Fld} (h : lieAll lo w fs) (hb : lo' ≤ lo) : lieAll lo' w fs := fun f hf => Fld.lies_mono hb f (h f hf)
theorem lieAll.app {lo : Nat} {w : World} {fs gs : List Fld} (h : lieAll lo w fs) (g : lieAll lo w gs) : lieAll lo w (fs ++ gs) := fun f hf => (List.mem_append.1 hf).elim (h f) (g f)
theorem lieAll.nil (lo : Nat) (w : World) : lieAll lo w [] := fun f hf => by cases hf
def putAt : Array Value → Nat → List Value → Array Value
 | cs, _, [] => cs
 | cs, o, v :: vs => putAt (cs.setIfInBounds o v) (o + 1) vs
theorem putAt_size : ∀ (vs : List Value) (cs : Array Value) (o : Nat), (putAt cs o vs).size = cs.size
 | [], cs, o => rfl
 | v :: vs, cs, o => by rw [putAt, putAt_size vs]; simp
theorem putAt_off : ∀ (vs : List Value) (cs : Array Value) (o j : Nat), j < o ∨ o + vs.length ≤ j → (putAt cs o vs)[j]? = cs[j]?
 | [], cs, o, j, h => rfl
 | v :: vs, cs, o, j, h => by
  rw [putAt, putAt_off vs _ (o + 1) j (by simp only [List.length_cons] at h; omega)]
  rw [Array.getElem?_setIfInBounds]
  simp only [List.length_cons] at h
  rw [if_neg (by omega)]
theorem putAt_in : ∀ (vs : List Value) (cs : Array Value) (o i : Nat), o + vs.length ≤ cs.size → i < vs.length → (putAt cs o vs)[o + i]? = vs[i]?
 | [], cs, o, i, h, hi => by cases hi
 | v :: vs, cs, o, 0, h, hi => by
  rw [putAt, putAt_off vs _ (o + 1) (o + 0) (by omega)]
  simp only [List.length_cons] at h
  rw [Nat.add_zero, Array.getElem?_setIfInBounds, if_pos rfl, if_pos (by omega)]
  rfl
 | v :: vs, cs, o, i + 1, h, hi => by
  rw [putAt, show o + (i + 1) = o + 1 + i by omega]
  rw [putAt_in vs _ (o + 1) i (by simp only [List.length_cons, Array.size_setIfInBounds] at h ⊢; omega) (by simpa using hi)]
  rfl
mutual
def Fld.apart (b : Nat) : Fld → Prop
 | .l la lc es => es = [] ∨ ∃ rb ro, la = some ⟨rb, ro, none⟩ ∧ rb ≠ b ∧ rowsApart b es
 | .i _ => True
 | .d _ => True
 | .b _ => True
 | .s _ => True
def rowsApart (b : Nat) : List (List Fld) → Prop
 | [] => True
 | e :: es => cellsApart b e ∧ rowsApart b es
def cellsApart (b : Nat) : List Fld → Prop
 | [] => True
 | f :: fs => f.apart b ∧ cellsApart b fs
end
structure Off (b : Nat) (w w' : World) : Prop where
 size : w.heap.size ≤ w'.heap.size
 block : ∀ k, k < w.heap.size → k ≠ b → w'.heap[k]? = w.heap[k]?
mutual
theorem Fld.lies_off {lo b : Nat} {w w' : World} (hb : Off b w w') : ∀ f : Fld, f.lies lo w → f.apart b → f.lies lo w'
 | .i _, h, _ => h
 | .d _, h, _ => h
 | .b _, _, _ => trivial
 | .s _, _, _ => trivial
 | .l la lc es, h, g => by
  obtain ⟨h1, h2, h3⟩ := h
  refine ⟨h1, h2, ?_⟩
  rcases h3 with h3 | ⟨rb, ro, e, hl, hz, hr⟩
  ·exact .inl h3
  ·rcases g with g | ⟨rb', ro', e', hne, hg⟩
   ·exact .inl g
   ·rw [e] at e'
    injection e' with e'
    injection e' with e1 _
    subst e1
    exact .inr ⟨rb, ro, e, hl, Nat.lt_of_lt_of_le hz hb.size, rowsLie_off hb rb hne hz ro es hr hg⟩
theorem rowsLie_off {lo b : Nat} {w w' : World} (hb : Off b w w') (rb : Nat) (hne : rb ≠ b) (hz : rb < w.heap.size) : ∀ (ro : Nat) (es : List (List Fld)), rowsLie lo w rb ro es → rowsApart b es → rowsLie lo w' rb ro es
 | _, [], _, _ => trivial
 | ro, e :: es, h, g => ⟨cellsLie_off hb rb hne hz ro e h.1 g.1, rowsLie_off hb rb hne hz (ro + e.length) es h.2 g.2⟩
theorem cellsLie_off {lo b : Nat} {w w' : World} (hb : Off b w w') (rb : Nat) (hne : rb ≠ b) (hz : rb < w.heap.size) : ∀ (o : Nat) (fs : List Fld), cellsLie lo w rb o fs → cellsApart b fs → cellsLie lo w' rb o fs
 | _, [], _, _ => trivial
 | o, f :: fs, h, g => ⟨(World.cell?_of_block (w := w) (a := ⟨rb, o, none⟩) (hb.block rb hz hne)).trans h.1, Fld.lies_off hb f h.2.1 g.1, cellsLie_off hb rb hne hz (o + 1) fs h.2.2 g.2⟩
end
mutual
theorem Fld.lies_apart {lo b : Nat} {w : World} (hb : b < lo ∨ w.heap.size ≤ b) : ∀ f : Fld, f.lies lo w → f.apart b
 | .i _, h => trivial
 | .d _, h => trivial
 | .b _, _ => trivial
 | .s _, _ => trivial
 | .l la lc es, h => by
  obtain ⟨h1, h2, h3⟩ := h
  rcases h3 with h3 | ⟨rb, ro, e, hl, hz, hr⟩
  ·exact .inl h3
  ·exact .inr ⟨rb, ro, e, by omega, rowsLie_apart hb rb ro es hr⟩
theorem rowsLie_apart {lo b : Nat} {w : World} (hb : b < lo ∨ w.heap.size ≤ b) (rb : Nat) : ∀ (ro : Nat) (es : List (List Fld)), rowsLie lo w rb ro es → rowsApart b es
 | _, [], _ => trivial
 | ro, e :: es, h => ⟨cellsLie_apart hb rb ro e h.1, rowsLie_apart hb rb (ro + e.length) es h.2⟩
theorem cellsLie_apart {lo b : Nat} {w : World} (hb : b < lo ∨ w.heap.size ≤ b) (rb : Nat) : ∀ (o : Nat) (fs : List Fld), cellsLie lo w rb o fs → cellsApart b fs
 | _, [], _ => trivial
 | o, f :: fs, h => ⟨Fld.lies_apart hb f h.2.1, cellsLie_apart hb rb (o + 1) fs h.2.2⟩
end
def apartAll (b : Nat) (fs : List Fld) : Prop := ∀ f ∈ fs, f.apart b
def flatV : List (List Fld) → List Value
 | [] => []
 | e :: es => e.map Fld.val ++ flatV es
theorem flatV_app : ∀ (a b : List (List Fld)), flatV (a ++ b) = flatV a ++ flatV b
 | [], b => rfl
 | e :: es, b => by simp [flatV, flatV_app es b]
structure RowG (lo : Nat) (e : TypeId) (sz : Nat) (v : Value) (es : List (List Fld)) (w : World) : Prop where
 own : w.ownsRow lo e sz v es.length (flatV es)
 lie : ∀ d ∈ es, lieAll lo w d
 out : ∀ b, v.ownBlock = some b → ∀ d ∈ es, apartAll b d
 len : ∀ d ∈ es, d.length = sz
theorem RowG.nil (lo : Nat) (e : TypeId) (sz : Nat) (w : World) : RowG lo e sz (.slice none 0 0) [] w :=
 ⟨⟨by simp [flatV], .inl ⟨rfl, rfl⟩⟩, fun d hd => (by cases hd), fun b hb => (by cases hb), fun d hd => (by cases hd)⟩
theorem RowG.hi {lo : Nat} {e : TypeId} {sz : Nat} {v : Value} {es : List (List Fld)} {w w' : World} (h : RowG lo e sz v es w) (hb : Hi lo w w') : RowG lo e sz v es w' := by
 refine ⟨⟨h.own.1, ?_⟩, fun d hd => (h.lie d hd).hi hb, h.out, h.len⟩
 rcases h.own.2 with q | ⟨g, cap, cur, e1, e2, e3, e4⟩
 ·exact .inl q
 ·exact .inr ⟨g, cap, cur, e1, e2, by rw [hb.block g e2 (Array.getElem?_eq_some_iff.1 e3).1]; exact e3, e4⟩
theorem RowG.add {lo lo' : Nat} {e : TypeId} {sz : Nat} {v v' : Value} {es : List (List Fld)} {gs : List Fld} {w w' : World} (h : RowG lo e sz v es w) (hl : lieAll lo' w gs) (hlo : lo ≤ lo') (hv : ∀ b, v.ownBlock = some b → b < lo') (hz : gs.length = sz) (hown : w'.ownsRow lo e sz v' (es.length + 1) (flatV es ++ gs.map Fld.val)) (hg : w.grownBy w' v.ownBlock) (hat : v'.ownBlock = v.ownBlock ∨ v'.ownBlock = some w.heap.size) : RowG lo e sz v' (es ++ [gs]) w' := by
 have hga : ∀ b, v.ownBlock = some b → apartAll b gs := fun b hb f hf => Fld.lies_apart (.inl (hv b hb)) f (hl f hf)
 have keep : ∀ d, lieAll lo w d → (∀ b, v.ownBlock = some b → apartAll b d) → lieAll lo w' d := fun d hd ha f hf => by
  cases hob : v.ownBlock with
  | none => exact Fld.lies_hi ⟨hg.size, fun k _ hk => hg.block k hk (by rw [hob]; simp)⟩ f (hd f hf)
  | some b => exact Fld.lies_off ⟨hg.size, fun k hk hne => hg.block k hk (by rw [hob]; simpa using hne)⟩ f (hd f hf) (ha b hob f hf)
 refine ⟨by simpa [flatV_app, flatV] using hown, fun d hd => ?_, fun b hb d hd => ?_, fun d hd => ?_⟩
 ·rcases List.mem_append.1 hd with hd | hd
  ·exact keep d (h.lie d hd) (fun b hb => h.out b hb d hd)
  ·rw [List.mem_singleton.1 hd]
   exact keep gs (hl.mono hlo) hga
 ·rcases hat with q | q
  ·rw [q] at hb
   rcases List.mem_append.1 hd with hd | hd
   ·exact h.out b hb d hd
   ·rw [List.mem_singleton.1 hd]
    exact hga b hb
  ·rw [q] at hb
   injection hb with hb
   subst hb
   rcases List.mem_append.1 hd with hd | hd
   ·exact fun f hf => Fld.lies_apart (.inr (Nat.le_refl _)) f (h.lie d hd f hf)
   ·rw [List.mem_singleton.1 hd]
    exact fun f hf => Fld.lies_apart (.inr (Nat.le_refl _)) f (hl f hf)
 ·rcases List.mem_append.1 hd with hd | hd
  ·exact h.len d hd
  ·rw [List.mem_singleton.1 hd]
   exact hz
theorem cellsLie_of {lo : Nat} {w : World} {g : Nat} : ∀ (fs : List Fld) (o : Nat), lieAll lo w fs → (∀ j v, (fs.map Fld.val)[j]? = some v → w.cell? ⟨g, o + j, none⟩ = some v) → cellsLie lo w g o fs
 | [], _, _, _ => trivial
 | f :: fs, o, hl, hc => ⟨hc 0 f.val rfl, hl f (by simp), cellsLie_of fs (o + 1) (fun x hx => hl x (by simp [hx])) (fun j v hj => by rw [show o + 1 + j = o + (j + 1) by omega]; exact hc (j + 1) v (by simpa using hj))⟩
theorem rowsLie_of {lo : Nat} {w : World} {g : Nat} : ∀ (es : List (List Fld)) (o : Nat), (∀ d ∈ es, lieAll lo w d) → (∀ j v, (flatV es)[j]? = some v → w.cell? ⟨g, o + j, none⟩ = some v) → rowsLie lo w g o es
 | [], _, _, _ => trivial
 | e :: es, o, hl, hc => by
  refine ⟨cellsLie_of e o (hl e (by simp)) (fun j v hj => hc j v ?_), rowsLie_of es (o + e.length) (fun d hd => hl d (by simp [hd])) (fun j v hj => ?_)⟩
  ·have := (List.getElem?_eq_some_iff.1 hj).1
   rw [flatV, List.getElem?_append_left this]
   exact hj
  ·rw [Nat.add_assoc]
   refine hc (e.length + j) v ?_
   rw [flatV, List.getElem?_append_right (by simp), List.length_map, show e.length + j - e.length = j by omega]
   exact hj
theorem RowG.fld {lo : Nat} {e : TypeId} {sz : Nat} {v : Value} {es : List (List Fld)} {w : World} (h : RowG lo e sz v es w) : ∃ la lc, v = (Fld.l la lc es).val ∧ (Fld.l la lc es).lies lo w := by
 rcases h.own.2 with ⟨rfl, q⟩ | ⟨g, cap, cur, rfl, e2, e3, e4, e5, e6, e7⟩
 ·have : es = [] := List.eq_nil_of_length_eq_zero q
  subst this
  exact ⟨none, 0, rfl, by simp, by simp [maxLen], .inl rfl⟩
 ·refine ⟨some ⟨g, 0, none⟩, cap, rfl, e4, e5, .inr ⟨g, 0, rfl, e2, (Array.getElem?_eq_some_iff.1 e3).1, rowsLie_of es 0 h.lie (fun j v hj => ?_)⟩⟩
  rw [← e7] at hj
  have hj' : cur[j]? = some v := by
   rw [List.getElem?_take] at hj
   split at hj
   ·simpa using hj
   ·cases hj
  simp [World.cell?, e3, hj']
theorem RowG.blk {lo : Nat} {e : TypeId} {sz : Nat} {v : Value} {es : List (List Fld)} {w : World} (h : RowG lo e sz v es w) (b : Nat) (hb : v.ownBlock = some b) : lo ≤ b ∧ b < w.heap.size := by
 rcases h.own.2 with ⟨rfl, _⟩ | ⟨g, cap, cur, rfl, e2, e3, _⟩
 ·cases hb
 ·injection hb with hb
  subst hb
  exact ⟨e2, (Array.getElem?_eq_some_iff.1 e3).1⟩
theorem Blk.range {w : World} {b : Nat} {C : Array Value} {t : TypeId} (h : Blk w b C t) : w.rangeAt b 0 C.toList := fun j v hv => by
 rw [h.cell, Nat.zero_add]
 simpa using hv
section
variable {P : Program} {ops : Array Oper} {Q : Exit → Act → World → Prop} {a : Act} {w w' : World} {rest : List Oper} {o : Oper}
def Fr (N : Nat) (L : List (Nat × Value)) (a : Act) : Prop := a.tmps.size = N ∧ a.defers = [] ∧ ∀ p ∈ L, a.eval (.tmp p.1) = p.2
theorem eval_put {i j : Nat} {v : Value} (h : i ≠ j) : (a.put (some i) v).eval (.tmp j) = a.eval (.tmp j) := by
 simp [Act.put, Act.eval, Array.getD_eq_getD_getElem?, Array.getElem?_setIfInBounds, h]
theorem eval_put_self {i : Nat} {v : Value} (h : i < a.tmps.size) : (a.put (some i) v).eval (.tmp i) = v := by
 simp [Act.put, Act.eval, Array.getD_eq_getD_getElem?, Array.getElem?_setIfInBounds, h]
theorem size_put {d : Option Tmp} {v : Value} : (a.put d v).tmps.size = a.tmps.size := by
 cases d <;> simp [Act.put]
def freeOf (is : List Nat) (L : List (Nat × Value)) : Bool := L.all fun p => !is.contains p.1
theorem Fr.put {N : Nat} {L : List (Nat × Value)} {is : List Nat} {i : Nat} {v : Value} (h : Fr N L a) (hf : freeOf is L = true) (hi : i ∈ is) : Fr N L (a.put (some i) v) := by
 obtain ⟨h1, h2, h3⟩ := h
 refine ⟨by rw [size_put]; exact h1, h2, fun p hp => ?_⟩
 rw [eval_put, h3 p hp]
 intro e
 have := List.all_eq_true.1 hf p hp
 subst e
 simp [hi] at this
theorem Fr.get {N : Nat} {L : List (Nat × Value)} (h : Fr N L a) {i : Nat} {v : Value} (hm : (i, v) ∈ L) : a.eval (.tmp i) = v := h.2.2 _ hm
theorem Fr.add {N : Nat} {L : List (Nat × Value)} {i : Nat} {v : Value} (h : Fr N L a) (he : a.eval (.tmp i) = v) : Fr N ((i, v) :: L) a :=
 ⟨h.1, h.2.1, fun p hp => by rcases List.mem_cons.1 hp with rfl | hp; exact he; exact h.2.2 p hp⟩
theorem Fr.sub {N : Nat} {L L' : List (Nat × Value)} (h : Fr N L a) (hs : ∀ p ∈ L', p ∈ L) : Fr N L' a := ⟨h.1, h.2.1, fun p hp => h.2.2 p (hs p hp)⟩
theorem Fr.set {N : Nat} {L : List (Nat × Value)} {i : Nat} {v : Value} (h : Fr N L a) (hi : i < N) (hf : freeOf [i] L = true) : Fr N ((i, v) :: L) (a.put (some i) v) :=
 (h.put hf (by simp)).add (eval_put_self (by rw [h.1]; exact hi))
theorem Fr.tl {N : Nat} {L : List (Nat × Value)} {p : Nat × Value} (h : Fr N (p :: L) a) : Fr N L a := h.sub fun q hq => by simp [hq]
theorem ol_val (hg : o.guard = none) {v : Value} (hr : (execOp a.eval o).run P w = .ok (.value v) w') (h : wpList P ops Q rest (a.put o.dst v) w') : wpList P ops Q (o :: rest) a w :=
 wpList_plain hg fun K hK => by
  unfold Oper.wp
  rw [hr]
  exact hK _ _ h
theorem ol_skip (hg : o.guard = none) (hd : o.dst = none) (hr : (execOp a.eval o).run P w = .ok .skip w') (h : wpList P ops Q rest a w') : wpList P ops Q (o :: rest) a w :=
 wpList_plain hg fun K hK => by
  unfold Oper.wp
  rw [hr]
  refine hK _ _ ?_
  rw [hd]
  exact h
theorem ol_move (hg : o.guard = none) {x : Operand} (ho : o.op = .move x ∨ o.op = .assign x) (h : wpList P ops Q rest (a.put o.dst (a.eval x)) w) : wpList P ops Q (o :: rest) a w :=
 ol_val hg (by rcases ho with ho | ho <;> (unfold execOp; rw [ho]; rfl)) h
def enters (P : Program) (f : FuncId) : Bool := match P.funcs[f]? with | some fn => !(fn.name == "runtime.NumGoroutine") && !fn.body.isNone | none => false
theorem run_enters {f : FuncId} {vs : Array Value} (hE : enters P f = true) : (callFunc f vs).run P w = .ok (.enter f vs) w := by
 unfold enters at hE
 cases hf : P.funcs[f]? with
 | none => rw [hf] at hE; cases hE
 | some fn =>
  rw [hf] at hE
  simp only [Bool.and_eq_true, Bool.not_eq_true', beq_eq_false_iff_ne] at hE
  have h2 : fn.body ≠ none := fun q => by rw [q] at hE; cases hE.2
  simp [callFunc, hf, hE.1, h2]
theorem run_callOf {f : FuncId} {xs : Array Operand} {ts : Array TypeId} (hE : enters P f = true) (ho : o.op = .call { callee := .value (.func f), args := xs, argTypes := ts }) : (execOp a.eval o).run P w = .ok (.enter f (xs.map a.eval)) w := by
 unfold execOp
 rw [ho]
 simp [resolve, Deferred.ofValue, invoke, Act.eval, run_enters hE]
theorem ol_call (hg : o.guard = none) {f : FuncId} (hE : enters P f = true) {xs : Array Operand} {ts : Array TypeId} (ho : o.op = .call { callee := .value (.func f), args := xs, argTypes := ts }) {vs : Array Value} (hv : xs.map a.eval = vs) {R : Ending → World → Prop} (hc : Calls P f vs w R)
  (h : ∀ e w', R e w' → ∃ v, e = .returned v ∧ wpList P ops Q rest (a.put o.dst v) w') : wpList P ops Q (o :: rest) a w :=
 wpList_plain hg fun K hK => by
  unfold Oper.wp
  rw [run_callOf hE ho, hv, Oper.upon_enter]
  refine hc.mono ?_
  intro e w' hR
  obtain ⟨v, rfl, hw⟩ := h e w' hR
  exact hK _ _ hw
def fldOff (P : Program) (s k : Nat) : Option Nat :=
 match P.underlying s with
 | some (.struct fs) => match fs[k]? with
  | some f => match P.info? f.type with
   | some i => if i.size = 0 then none else some f.offset
   | none => none
  | none => none
 | _ => none
theorem run_store_any (w : World) (b n : Nat) (ty : TypeId) (v : Value) (ht : w.there b n v.cells.size) (hi : (P.info? ty).map (·.size) = some v.cells.size) (h1 : ∀ u ∈ v.cells.toList, u.oneCell' = true) :
  (storeVar ty ⟨b, n, none⟩ v).run P w = .ok () (w.setCells b n v.cells.toList) := by
 have := run_storeCells_cells (P := P) b n v.cells.toList 0 w (fun j hj => by simpa using (ht j (by simpa using hj)).1) (fun j hj => by simpa using (ht j (by simpa using hj)).2) h1
 cases hq : P.info? ty with
 | none => simp [hq] at hi
 | some i =>
  have hs : v.cells.size = i.size := by simp [hq] at hi; omega
  simp only [Nat.add_zero] at this
  simp [storeVar, sizeOf, typeInfo, hq, hs, this]
theorem ol_store (hg : o.guard = none) (hd : o.dst = none) {ty : TypeId} {x y : Operand} (ho : o.op = .store ty x y) {b n : Nat} {v : Value} (hx : a.eval x = .pointer (some ⟨b, n, none⟩)) (hy : a.eval y = v) (ht : w.there b n v.cells.size) (hi : (P.info? ty).map (·.size) = some v.cells.size) (h1 : ∀ u ∈ v.cells.toList, u.oneCell' = true)
  (h : wpList P ops Q rest a (w.setCells b n v.cells.toList)) : wpList P ops Q (o :: rest) a w :=
 ol_skip hg hd (by unfold execOp; rw [ho]; simp only [hx, hy]; simp [Instr.storeAt, Instr.sureAddr, Sem.run_bind, run_store_any w b n ty v ht hi h1]) h
theorem ol_row (hg : o.guard = none) {ty : TypeId} {x : Operand} (ho : o.op = .load ty x) {b n : Nat} {cs : List Value} {d : TypeDesc} (hx : a.eval x = .pointer (some ⟨b, n, none⟩)) (hc : w.rangeAt b n cs) (hu : P.underlying ty = some d) (hd : d.isRow = true) (hi : (P.info? ty).map (·.size) = some cs.length)
  (h : wpList P ops Q rest (a.put o.dst (.agg cs.toArray)) w) : wpList P ops Q (o :: rest) a w := wpList_load_mid hg ty x ho b n hx cs d hc hu hd hi h
theorem ol_cell (hg : o.guard = none) {ty : TypeId} {x : Operand} (ho : o.op = .load ty x) {b n : Nat} {v : Value} {d : TypeDesc} (hx : a.eval x = .pointer (some ⟨b, n, none⟩)) (hc : w.cell? ⟨b, n, none⟩ = some v) (hu : P.underlying ty = some d) (hd : d.isRow = false)
  (h : wpList P ops Q rest (a.put o.dst v) w) : wpList P ops Q (o :: rest) a w :=
 ol_val hg (by
  unfold execOp
  rw [ho]
  simp only [hx]
  have hagg : (isAgg ty).run P w = .ok false w := by
   unfold isAgg
   rw [Sem.run_bind, run_underlying hu w]
   cases d <;> simp_all [TypeDesc.isRow]
  simp [Instr.loadAt, Instr.sureAddr, loadVar, hagg, hc]) h
theorem ol_alloc (hg : o.guard = none) {ty : TypeId} (ho : o.op = .alloc ty) {z : Value} {n : Nat} (hi : (P.info? ty).map (fun i => (i.zero, i.size)) = some (some z, n)) (h : wpList P ops Q rest (a.put o.dst (.pointer (some ⟨w.heap.size, 0, none⟩))) (w.alloc (.cells z.cells ty))) : wpList P ops Q (o :: rest) a w :=
 ol_val hg (by
  unfold execOp
  rw [ho]
  cases hq : P.info? ty with
  | none => simp [hq] at hi
  | some i =>
   have hz : i.zero = some z := by simp [hq] at hi; exact hi.1
   simp [Instr.alloc, zeroValue, typeInfo, hq, hz, newVar, newRow]) h
theorem ol_box (hg : o.guard = none) {ty : TypeId} {x : Operand} (ho : o.op = .box ty x) {v : Value} (hx : a.eval x = v) (h : wpList P ops Q rest (a.put o.dst (.pointer (some ⟨w.heap.size, 0, none⟩))) (w.alloc (.cells v.cells ty))) : wpList P ops Q (o :: rest) a w :=
 ol_val hg (by unfold execOp; rw [ho]; simp only [hx]; simp [Instr.box, newVar, newRow]) h
theorem ol_build (hg : o.guard = none) {ty : TypeId} {ps : Array (Nat × Operand)} (ho : o.op = .build ty ps) {Z : Array Value} (hb : P.built ty (ps.map fun q => (q.1, a.eval q.2)).toList = some Z) (h : wpList P ops Q rest (a.put o.dst (.agg Z)) w) : wpList P ops Q (o :: rest) a w :=
 ol_val hg (by unfold execOp; rw [ho]; simp only; rw [Sem.run_bind, run_build w ty _ Z hb]; rfl) h
end
theorem Blk.thereAt {w : World} {b : Nat} {cs : Array Value} {t : TypeId} (k : Blk w b cs t) (o n : Nat) (hn : o + n ≤ cs.size) : w.there b o n := fun j hj =>
 ⟨by rw [k.cell]; simp; omega, k.frozen (o + j)⟩
theorem but_cells (b : Nat) : ∀ (vs : List Value) (o : Nat) (w : World), But (fun k => k = b) w (w.setCells b o vs)
 | [], _, w => But.refl _ w
 | v :: r, o, w => (But.set (S := fun k => k = b) w (p := ⟨b, o, none⟩) rfl v).trans (but_cells b r (o + 1) _)
theorem Blk.putCells {b : Nat} {t : TypeId} : ∀ (vs : List Value) (o : Nat) (w : World) (cs : Array Value), Blk w b cs t → Blk (w.setCells b o vs) b (putAt cs o vs) t
 | [], _, _, _, h => h
 | v :: r, o, w, cs, h => Blk.putCells r (o + 1) _ _ (h.set o v)
theorem fld_one : ∀ f : Fld, f.val.oneCell' = true
 | .i _ => rfl
 | .d _ => rfl
 | .b _ => rfl
 | .s _ => rfl
 | .l _ _ _ => rfl
theorem flds_one (fs : List Fld) : ∀ u ∈ ((fs.map Fld.val).toArray).toList, u.oneCell' = true := fun u hu => by
 simp at hu
 obtain ⟨f, _, rfl⟩ := hu
 exact fld_one f
abbrev Is (o : Oper) (d : Option Nat) (p : Op) : Prop := o.dst = d ∧ o.op = p ∧ o.guard = none
def ptr (b : Nat) : Value := .pointer (some ⟨b, 0, none⟩)
def rowT (P : Program) (t : TypeId) : Bool := match P.underlying t with | some d => d.isRow | none => false
theorem rowT_out {P : Program} {t : TypeId} (h : rowT P t = true) : ∃ d, P.underlying t = some d ∧ d.isRow = true := by
 unfold rowT at h
 cases hu : P.underlying t with
 | none => rw [hu] at h; cases h
 | some d => rw [hu] at h; exact ⟨d, rfl, h⟩
theorem putAt_all {vs : List Value} {cs : Array Value} (h : vs.length = cs.size) : putAt cs 0 vs = vs.toArray := by
 apply Array.ext_getElem?
 intro i
 by_cases hi : i < vs.length
 ·have := putAt_in vs cs 0 i (by omega) hi
  rw [Nat.zero_add] at this
  rw [this]
  simp
 ·rw [Array.getElem?_eq_none (by rw [putAt_size]; omega), Array.getElem?_eq_none (by simp; omega)]
theorem info_parts3 {P : Program} {t : TypeId} {z : Value} {n : Nat} (h : (P.info? t).map (fun i => (i.zero, i.size, decide (i.bytes ≤ 1000))) = some (some z, n, true)) : ∃ i, P.info? t = some i ∧ i.zero = some z ∧ i.size = n ∧ decide (i.bytes ≤ 1000) = true := by
 cases hi : P.info? t with
 | none => rw [hi] at h; cases h
 | some i =>
  rw [hi] at h
  simp only [Option.map_some, Option.some.injEq, Prod.mk.injEq] at h
  exact ⟨i, rfl, h.1, h.2.1, h.2.2⟩
section
variable {P : Program} {ops : Array Oper} {Q : Exit → Act → World → Prop} {a : Act} {w w' : World} {rest : List Oper} {o : Oper}
theorem ol_nil (hg : o.guard = none) {x : Operand} (ho : o.op = .nilCheck x) {p : Addr} (hx : a.eval x = .pointer (some p)) (h : wpList P ops Q rest (a.put o.dst (.pointer (some p))) w) : wpList P ops Q (o :: rest) a w :=
 ol_val hg (by unfold execOp; rw [ho]; simp only [hx]; rfl) h
theorem ol_len (hg : o.guard = none) {x : Operand} {t e : TypeId} (ho : o.op = .call { callee := .builtin .len, args := #[x], argTypes := #[t] }) {la : Option Addr} {n c : Nat} (hx : a.eval x = .slice la n c) (hu : P.underlying t = some (.slice e)) (h : wpList P ops Q rest (a.put o.dst (.int .i64 n)) w) : wpList P ops Q (o :: rest) a w :=
 ol_val hg (by
  unfold execOp
  rw [ho]
  simp [resolve, hx, invoke, builtin, Builtin.len_, run_underlying hu, goInt]) h
theorem ol_at (hg : o.guard = none) {x y : Operand} {t e : TypeId} (ho : o.op = .indexAddr t x y) {rb ro n c k sz : Nat} (hx : a.eval x = .slice (some ⟨rb, ro, none⟩) n c) (hy : a.eval y = .int .i64 k) (hk : k < n) (hu : P.underlying t = some (.slice e)) (hs : (P.info? e).map (·.size) = some sz) (h : wpList P ops Q rest (a.put o.dst (.pointer (some ⟨rb, ro + k * sz, none⟩))) w) : wpList P ops Q (o :: rest) a w :=
 ol_val hg (by
  unfold execOp
  rw [ho]
  simp only [hx, hy]
  cases hi : P.info? e with
  | none => rw [hi] at hs; cases hs
  | some i =>
   have hz : i.size = sz := by rw [hi] at hs; simpa using hs
   simp [Instr.indexAt, run_underlying hu, asIntOf, sizeOf, typeInfo, hi, hz, hk, Addr.add_lit]) h
end
section
variable {P : Program} {ops : Array Oper} {Q : Exit → Act → World → Prop} {a : Act} {w w' : World} {rest : List Oper} {o : Oper}
theorem ol_extract (hg : o.guard = none) {x : Operand} {i : Nat} (ho : o.op = .extract x i) {vs : Array Value} (hx : a.eval x = .tuple vs) {v : Value} (hv : vs[i]? = some v) (h : wpList P ops Q rest (a.put o.dst v) w) : wpList P ops Q (o :: rest) a w :=
 ol_val hg (by unfold execOp; rw [ho]; simp only [hx]; simp [Instr.extract, hv]) h
end
end Go.Proofs.YtemjajljpoaioaaDoor
