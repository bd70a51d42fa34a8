import Derived.Test.YtackcbpabjhmpaaGreatM11
import Derived.Deep.MidRow
import Derived.Deep.WholeRow
namespace Go.Proofs.YtackcbpabjhmpaaGreat
open Go.RowKit
set_option linter.unusedVariables false
set_option linter.unusedSimpArgs false
def PgS (B : List UInt8) (scs : List Sc) (s : List UInt8) (E : Int) (fs : List Fld) (a' : Nat) (E' : Int) : Prop :=
 a' ≤ B.length ∧ ((E ≠ 0 ∧ E' = E) ∨ (E = 0 ∧ ((∃ er, readAll scs s = .error er ∧ E' = er ∧ er ≠ 0) ∨ (∃ r, readAll scs s = .ok (pvAll fs, r) ∧ E' = 0 ∧ B.drop a' = r))))
theorem PgS.nil {B : List UInt8} {a : Nat} (E : Int) (ha : a ≤ B.length) : PgS B [] (B.drop a) E [] a E := by
 refine ⟨ha, ?_⟩
 by_cases h : E = 0
 ·exact .inr ⟨h, .inr ⟨B.drop a, rfl, h, rfl⟩⟩
 ·exact .inl ⟨h, rfl⟩
theorem PgS.seq {B : List UInt8} {x y : List Sc} {s : List UInt8} {E E1 E' : Int} {fs gs : List Fld} {a a' : Nat} (h : PgS B x s E fs a E1) (g : PgS B y (B.drop a) E1 gs a' E') : PgS B (x ++ y) s E (fs ++ gs) a' E' := by
 obtain ⟨h0, h⟩ := h
 obtain ⟨g0, g⟩ := g
 refine ⟨g0, ?_⟩
 rcases h with ⟨h1, rfl⟩ | ⟨rfl, ⟨er, h1, rfl, h3⟩ | ⟨r, h1, rfl, h3⟩⟩
 ·rcases g with ⟨_, rfl⟩ | ⟨g1, _⟩
  ·exact .inl ⟨h1, rfl⟩
  ·exact absurd g1 h1
 ·rcases g with ⟨_, rfl⟩ | ⟨g1, _⟩
  ·exact .inr ⟨rfl, .inl ⟨E', by rw [readAll_app, h1]; rfl, rfl, h3⟩⟩
  ·exact absurd g1 h3
 ·rw [h3] at g
  rcases g with ⟨g1, _⟩ | ⟨_, ⟨er, g1, rfl, g3⟩ | ⟨q, g1, rfl, g3⟩⟩
  ·exact absurd rfl g1
  ·exact .inr ⟨rfl, .inl ⟨E', by rw [readAll_app, h1]; simp [andR, g1], rfl, g3⟩⟩
  ·exact .inr ⟨rfl, .inr ⟨q, by rw [readAll_app, h1]; simp [andR, g1, pvAll_app], rfl, g3⟩⟩
theorem pg_one {α : Type} {c : Sc} {B s : List UInt8} {z v : α} {x : Rs α} {E E' : Int} {a' : Nat} (mk : α → Fld) (pv : α → Pv) (hp : ∀ v, (mk v).pv = pv v) (hr : c.read s = (match x with | .error e => .error e | .ok (v, r) => .ok (pv v, r))) (hz : c.fits (mk z)) (h : Pg B z x E v a' E') : PgS B [c] s E [mk v] a' E' ∧ fitsAll [c] [mk v] := by
 obtain ⟨h0, h⟩ := h
 have one : ∀ f, c.fits f → fitsAll [c] [f] := fun f hf => by simp [fitsAll, hf]
 rcases h with ⟨h1, rfl, rfl⟩ | ⟨rfl, ⟨er, rfl, rfl, rfl⟩ | ⟨r, rfl, rfl, h3⟩⟩
 ·exact ⟨⟨h0, .inl ⟨h1, rfl⟩⟩, one _ hz⟩
 ·have e : readAll [c] s = .error E' := by simp [readAll, hr]
  exact ⟨⟨h0, .inr ⟨rfl, .inl ⟨E', e, rfl, readAll_ne _ _ _ e⟩⟩⟩, one _ hz⟩
 ·have e : readAll [c] s = .ok (pvAll [mk v], r) := by simp [readAll, hr, pvAll, hp]
  exact ⟨⟨h0, .inr ⟨rfl, .inr ⟨r, e, rfl, h3⟩⟩⟩, readAll_fits _ _ _ _ e⟩
theorem pg_num {B s : List UInt8} {m v E E' : Int} {a' : Nat} (hm : 0 ≤ m) (h : Pg B 0 (numP m s) E v a' E') : PgS B [.num m] s E [.i v] a' E' ∧ fitsAll [.num m] [.i v] :=
 pg_one Fld.i (fun v => (Fld.i v).pv) (fun _ => rfl) (by rw [Sc.read]; cases numP m s <;> rfl) (by rw [Sc.fits]; omega) h
theorem pg_flag {B s : List UInt8} {v : Bool} {E E' : Int} {a' : Nat} (h : Pg B false (flagP s) E v a' E') : PgS B [.flag] s E [.b v] a' E' ∧ fitsAll [.flag] [.b v] :=
 pg_one Fld.b (fun v => (Fld.b v).pv) (fun _ => rfl) (by rw [Sc.read]; cases flagP s <;> rfl) (by rw [Sc.fits]; trivial) h
theorem pg_dig {B s : List UInt8} {v E E' : Int} {a' : Nat} (h : Pg B 0 (digP s) E v a' E') : PgS B [.dig] s E [.d v] a' E' ∧ fitsAll [.dig] [.d v] :=
 pg_one Fld.d (fun v => (Fld.d v).pv) (fun _ => rfl) (by rw [Sc.read]; cases digP s <;> rfl) (by rw [Sc.fits]; omega) h
theorem pg_text {B s v : List UInt8} {m E E' : Int} {a' : Nat} (hm : 0 ≤ m) (h : Pg B [] (textP m s) E v a' E') : PgS B [.text m] s E [.s v] a' E' ∧ fitsAll [.text m] [.s v] :=
 pg_one Fld.s (fun v => (Fld.s v).pv) (fun _ => rfl) (by rw [Sc.read]; cases textP m s <;> rfl) (by rw [Sc.fits]; simpa using hm) h
structure Sf (gb vb : Nat) (B s0 : List UInt8) (E0 : Int) (w0 : World) (cs : Array Value) (t : TypeId) (done : List Sc) (fs : List Fld) (a : Nat) (E : Int) (w : World) : Prop where
 g : Gt w gb B a E
 x : Blk w vb (putAt cs 0 (fs.map Fld.val)) t
 old : gb < w0.heap.size
 new : w0.heap.size ≤ vb
 but : But (fun k => k = gb) w0 w
 fit : fitsAll done fs
 lie : lieAll (vb + 1) w fs
 pg : PgS B done s0 E0 fs a E
theorem fits_len : ∀ {cs : List Sc} {fs : List Fld}, fitsAll cs fs → fs.length = cs.length
 | [], fs, h => by rw [fits_nil h]; rfl
 | c :: cs, fs, h => by
  obtain ⟨f, gs, rfl, _, h2⟩ := fits_cons h
  rw [List.length_cons, List.length_cons, fits_len h2]
theorem Sf.step {gb vb : Nat} {B s0 : List UInt8} {E0 : Int} {w0 : World} {cs : Array Value} {t : TypeId} {done one : List Sc} {fs gs : List Fld} {a a' : Nat} {E E' : Int} {w w1 w2 : World} (h : Sf gb vb B s0 E0 w0 cs t done fs a E w) (g : Gt w1 gb B a' E') (hb : But (fun k => k = gb) w w1) (hl : lieAll w.heap.size w1 gs) (hp : PgS B one (B.drop a) E gs a' E' ∧ fitsAll one gs) (hb2 : But (fun k => k = vb) w1 w2) (hx : ∀ cs1, Blk w1 vb cs1 t → Blk w2 vb (putAt cs1 done.length (gs.map Fld.val)) t) :
  Sf gb vb B s0 E0 w0 cs t (done ++ one) (fs ++ gs) a' E' w2 := by
 have hne : gb ≠ vb := by have := h.old; have := h.new; omega
 have x1 := hb.blk h.x (fun q => hne q.symm)
 have hlt : vb + 1 ≤ w.heap.size := h.x.lt
 refine ⟨hb2.blk g hne, ?_, h.old, h.new, (h.but.trans hb).trans_new hb2 (fun k hk q => ?_), fitsAll_app h.fit hp.2, lieAll.app ?_ ?_, h.pg.seq hp.1⟩
 ·have := hx _ x1
  rw [List.map_append, putAt_app, List.length_map, Nat.zero_add, fits_len h.fit]
  exact this
 ·have := h.new
  omega
 ·exact (h.lie.hi (Hi.of_but hb (fun k q => by have := h.old; have := h.new; omega))).hi (Hi.of_but hb2 (fun k q => by omega))
 ·exact (hl.mono hlt).hi (Hi.of_but hb2 (fun k q => by omega))
theorem Sf.cell {gb vb : Nat} {B s0 : List UInt8} {E0 : Int} {w0 : World} {cs : Array Value} {t : TypeId} {done : List Sc} {fs : List Fld} {a : Nat} {E : Int} {w w1 : World} (h : Sf gb vb B s0 E0 w0 cs t done fs a E w) (hb : But (fun k => k = gb) w w1) (j : Nat) (hj : done.length ≤ j) {z : Value} (hz : cs[j]? = some z) : w1.cell? ⟨vb, j, none⟩ = some z ∧ w1.frozen? ⟨vb, j, none⟩ = false ∧ vb < w1.heap.size := by
 have x1 := hb.blk h.x (fun q => by have := h.old; have := h.new; omega)
 refine ⟨?_, x1.frozen j, x1.lt⟩
 rw [x1.cell j, putAt_off _ _ _ _ (.inr (by rw [List.length_map, fits_len h.fit]; omega))]
 exact hz
theorem lie_i {m v : Int} (hm : m ≤ 1099511627775) (h : fitsAll [.num m] [.i v]) (lo : Nat) (w : World) : lieAll lo w [.i v] := fun f hf => by
 have hf := List.mem_singleton.1 hf
 subst hf
 have h1 : Sc.fits (.num m) (.i v) := get_fits h 0 rfl rfl
 rw [Sc.fits] at h1
 show -9223372036854775808 ≤ v ∧ v ≤ 9223372036854775807
 omega
theorem lie_d {v : Int} (h : fitsAll [.dig] [.d v]) (lo : Nat) (w : World) : lieAll lo w [.d v] := fun f hf => by
 have hf := List.mem_singleton.1 hf
 subst hf
 have h1 : Sc.fits .dig (.d v) := get_fits h 0 rfl rfl
 rw [Sc.fits] at h1
 exact h1
theorem lie_b (v : Bool) (lo : Nat) (w : World) : lieAll lo w [.b v] := fun f hf => by
 have hf := List.mem_singleton.1 hf
 subst hf
 trivial
theorem lie_s (v : List UInt8) (lo : Nat) (w : World) : lieAll lo w [.s v] := fun f hf => by
 have hf := List.mem_singleton.1 hf
 subst hf
 trivial
def GotS (gb : Nat) (B : List UInt8) (wrap : Array Value → Value) (scs : List Sc) (a : Nat) (E : Int) (w : World) (e : Ending) (w' : World) : Prop :=
 ∃ fs a' E', e = .returned (wrap (fs.map Fld.val).toArray) ∧ Gt w' gb B a' E' ∧ But (fun k => k = gb) w w' ∧ lieAll w.heap.size w' fs ∧ PgS B scs (B.drop a) E fs a' E' ∧ fitsAll scs fs
theorem cell_back {u : World} {b i j : Nat} {V : Array Value} {t : TypeId} {v x : Value} (h : Blk (u.setCell ⟨b, j, none⟩ v) b V t) (hne : i ≠ j) (hx : V[i]? = some x) : u.cell? ⟨b, i, none⟩ = some x := by
 have q := h.cell i
 rw [hx, World.cell?_setCell_other] at q
 ·exact q
 ·intro e; injection e with _ e; omega
theorem Sf.got {gb vb rb : Nat} {B : List UInt8} {w0 : World} {cs : Array Value} {t : TypeId} {done : List Sc} {fs : List Fld} {a a0 : Nat} {E E0 : Int} {w w2 : World} (h : Sf gb vb B (B.drop a0) E0 w0 cs t done fs a E w) (hg : gb < rb) (hr : w0.heap.size ≤ rb ∧ rb ≤ vb) (hb : But (fun k => k = rb) w w2) : GotS gb B .agg done a0 E0 w0 (.returned (.agg (fs.map Fld.val).toArray)) w2 := by
 have hn := h.new
 exact ⟨fs, a, E, rfl, hb.blk h.g (fun q => by omega), h.but.trans_new hb (fun k hk q => by omega), (h.lie.hi (Hi.of_but hb (fun k q => by omega))).mono (by omega), h.pg, h.fit⟩
mutual
def Fld.apart (b : Nat) : Fld → Prop
 | .l la lc es => es = [] ∨ ∃ rb ro, la = some ⟨rb, ro, none⟩ ∧ rb ≠ b ∧ rowsApart b es
 | .i _ => True
 | .d _ => True
 | .b _ => True
 | .s _ => True
def rowsApart (b : Nat) : List (List Fld) → Prop
 | [] => True
 | e :: es => cellsApart b e ∧ rowsApart b es
def cellsApart (b : Nat) : List Fld → Prop
 | [] => True
 | f :: fs => f.apart b ∧ cellsApart b fs
end
structure Off (b : Nat) (w w' : World) : Prop where
 size : w.heap.size ≤ w'.heap.size
 block : ∀ k, k < w.heap.size → k ≠ b → w'.heap[k]? = w.heap[k]?
mutual
theorem Fld.lies_off {lo b : Nat} {w w' : World} (hb : Off b w w') : ∀ f : Fld, f.lies lo w → f.apart b → f.lies lo w'
 | .i _, h, _ => h
 | .d _, h, _ => h
 | .b _, _, _ => trivial
 | .s _, _, _ => trivial
 | .l la lc es, h, g => by
  obtain ⟨h1, h2, h3⟩ := h
  refine ⟨h1, h2, ?_⟩
  rcases h3 with h3 | ⟨rb, ro, e, hl, hz, hr⟩
  ·exact .inl h3
  ·rcases g with g | ⟨rb', ro', e', hne, hg⟩
   ·exact .inl g
   ·rw [e] at e'
    injection e' with e'
    injection e' with e1 _
    subst e1
    exact .inr ⟨rb, ro, e, hl, Nat.lt_of_lt_of_le hz hb.size, rowsLie_off hb rb hne hz ro es hr hg⟩
theorem rowsLie_off {lo b : Nat} {w w' : World} (hb : Off b w w') (rb : Nat) (hne : rb ≠ b) (hz : rb < w.heap.size) : ∀ (ro : Nat) (es : List (List Fld)), rowsLie lo w rb ro es → rowsApart b es → rowsLie lo w' rb ro es
 | _, [], _, _ => trivial
 | ro, e :: es, h, g => ⟨cellsLie_off hb rb hne hz ro e h.1 g.1, rowsLie_off hb rb hne hz (ro + e.length) es h.2 g.2⟩
theorem cellsLie_off {lo b : Nat} {w w' : World} (hb : Off b w w') (rb : Nat) (hne : rb ≠ b) (hz : rb < w.heap.size) : ∀ (o : Nat) (fs : List Fld), cellsLie lo w rb o fs → cellsApart b fs → cellsLie lo w' rb o fs
 | _, [], _, _ => trivial
 | o, f :: fs, h, g => ⟨(World.cell?_of_block (w := w) (a := ⟨rb, o, none⟩) (hb.block rb hz hne)).trans h.1, Fld.lies_off hb f h.2.1 g.1, cellsLie_off hb rb hne hz (o + 1) fs h.2.2 g.2⟩
end
mutual
theorem Fld.lies_apart {lo b : Nat} {w : World} (hb : b < lo ∨ w.heap.size ≤ b) : ∀ f : Fld, f.lies lo w → f.apart b
 | .i _, h => trivial
 | .d _, h => trivial
 | .b _, _ => trivial
 | .s _, _ => trivial
 | .l la lc es, h => by
  obtain ⟨h1, h2, h3⟩ := h
  rcases h3 with h3 | ⟨rb, ro, e, hl, hz, hr⟩
  ·exact .inl h3
  ·exact .inr ⟨rb, ro, e, by omega, rowsLie_apart hb rb ro es hr⟩
theorem rowsLie_apart {lo b : Nat} {w : World} (hb : b < lo ∨ w.heap.size ≤ b) (rb : Nat) : ∀ (ro : Nat) (es : List (List Fld)), rowsLie lo w rb ro es → rowsApart b es
 | _, [], _ => trivial
 | ro, e :: es, h => ⟨cellsLie_apart hb rb ro e h.1, rowsLie_apart hb rb (ro + e.length) es h.2⟩
theorem cellsLie_apart {lo b : Nat} {w : World} (hb : b < lo ∨ w.heap.size ≤ b) (rb : Nat) : ∀ (o : Nat) (fs : List Fld), cellsLie lo w rb o fs → cellsApart b fs
 | _, [], _ => trivial
 | o, f :: fs, h => ⟨Fld.lies_apart hb f h.2.1, cellsLie_apart hb rb (o + 1) fs h.2.2⟩
end
def apartAll (b : Nat) (fs : List Fld) : Prop := ∀ f ∈ fs, f.apart b
def flatV : List (List Fld) → List Value
 | [] => []
 | e :: es => e.map Fld.val ++ flatV es
theorem flatV_app : ∀ (a b : List (List Fld)), flatV (a ++ b) = flatV a ++ flatV b
 | [], b => rfl
 | e :: es, b => by simp [flatV, flatV_app es b]
structure RowG (lo : Nat) (e : TypeId) (sz : Nat) (v : Value) (es : List (List Fld)) (w : World) : Prop where
 own : w.ownsRow lo e sz v es.length (flatV es)
 lie : ∀ d ∈ es, lieAll lo w d
 out : ∀ b, v.ownBlock = some b → ∀ d ∈ es, apartAll b d
 len : ∀ d ∈ es, d.length = sz
theorem RowG.nil (lo : Nat) (e : TypeId) (sz : Nat) (w : World) : RowG lo e sz (.slice none 0 0) [] w :=
 ⟨⟨by simp [flatV], .inl ⟨rfl, rfl⟩⟩, fun d hd => (by cases hd), fun b hb => (by cases hb), fun d hd => (by cases hd)⟩
theorem RowG.hi {lo : Nat} {e : TypeId} {sz : Nat} {v : Value} {es : List (List Fld)} {w w' : World} (h : RowG lo e sz v es w) (hb : Hi lo w w') : RowG lo e sz v es w' := by
 refine ⟨⟨h.own.1, ?_⟩, fun d hd => (h.lie d hd).hi hb, h.out, h.len⟩
 rcases h.own.2 with q | ⟨g, cap, cur, e1, e2, e3, e4⟩
 ·exact .inl q
 ·exact .inr ⟨g, cap, cur, e1, e2, by rw [hb.block g e2 (Array.getElem?_eq_some_iff.1 e3).1]; exact e3, e4⟩
theorem RowG.add {lo lo' : Nat} {e : TypeId} {sz : Nat} {v v' : Value} {es : List (List Fld)} {gs : List Fld} {w w' : World} (h : RowG lo e sz v es w) (hl : lieAll lo' w gs) (hlo : lo ≤ lo') (hv : ∀ b, v.ownBlock = some b → b < lo') (hz : gs.length = sz) (hown : w'.ownsRow lo e sz v' (es.length + 1) (flatV es ++ gs.map Fld.val)) (hg : w.grownBy w' v.ownBlock) (hat : v'.ownBlock = v.ownBlock ∨ v'.ownBlock = some w.heap.size) : RowG lo e sz v' (es ++ [gs]) w' := by
 have hga : ∀ b, v.ownBlock = some b → apartAll b gs := fun b hb f hf => Fld.lies_apart (.inl (hv b hb)) f (hl f hf)
 have keep : ∀ d, lieAll lo w d → (∀ b, v.ownBlock = some b → apartAll b d) → lieAll lo w' d := fun d hd ha f hf => by
  cases hob : v.ownBlock with
  | none => exact Fld.lies_hi ⟨hg.size, fun k _ hk => hg.block k hk (by rw [hob]; simp)⟩ f (hd f hf)
  | some b => exact Fld.lies_off ⟨hg.size, fun k hk hne => hg.block k hk (by rw [hob]; simpa using hne)⟩ f (hd f hf) (ha b hob f hf)
 refine ⟨by simpa [flatV_app, flatV] using hown, fun d hd => ?_, fun b hb d hd => ?_, fun d hd => ?_⟩
 ·rcases List.mem_append.1 hd with hd | hd
  ·exact keep d (h.lie d hd) (fun b hb => h.out b hb d hd)
  ·rw [List.mem_singleton.1 hd]
   exact keep gs (hl.mono hlo) hga
 ·rcases hat with q | q
  ·rw [q] at hb
   rcases List.mem_append.1 hd with hd | hd
   ·exact h.out b hb d hd
   ·rw [List.mem_singleton.1 hd]
    exact hga b hb
  ·rw [q] at hb
   injection hb with hb
   subst hb
   rcases List.mem_append.1 hd with hd | hd
   ·exact fun f hf => Fld.lies_apart (.inr (Nat.le_refl _)) f (h.lie d hd f hf)
   ·rw [List.mem_singleton.1 hd]
    exact fun f hf => Fld.lies_apart (.inr (Nat.le_refl _)) f (hl f hf)
 ·rcases List.mem_append.1 hd with hd | hd
  ·exact h.len d hd
  ·rw [List.mem_singleton.1 hd]
   exact hz
theorem cellsLie_of {lo : Nat} {w : World} {g : Nat} : ∀ (fs : List Fld) (o : Nat), lieAll lo w fs → (∀ j v, (fs.map Fld.val)[j]? = some v → w.cell? ⟨g, o + j, none⟩ = some v) → cellsLie lo w g o fs
 | [], _, _, _ => trivial
 | f :: fs, o, hl, hc => ⟨hc 0 f.val rfl, hl f (by simp), cellsLie_of fs (o + 1) (fun x hx => hl x (by simp [hx])) (fun j v hj => by rw [show o + 1 + j = o + (j + 1) by omega]; exact hc (j + 1) v (by simpa using hj))⟩
theorem rowsLie_of {lo : Nat} {w : World} {g : Nat} : ∀ (es : List (List Fld)) (o : Nat), (∀ d ∈ es, lieAll lo w d) → (∀ j v, (flatV es)[j]? = some v → w.cell? ⟨g, o + j, none⟩ = some v) → rowsLie lo w g o es
 | [], _, _, _ => trivial
 | e :: es, o, hl, hc => by
  refine ⟨cellsLie_of e o (hl e (by simp)) (fun j v hj => hc j v ?_), rowsLie_of es (o + e.length) (fun d hd => hl d (by simp [hd])) (fun j v hj => ?_)⟩
  ·have := (List.getElem?_eq_some_iff.1 hj).1
   rw [flatV, List.getElem?_append_left this]
   exact hj
  ·rw [Nat.add_assoc]
   refine hc (e.length + j) v ?_
   rw [flatV, List.getElem?_append_right (by simp), List.length_map, show e.length + j - e.length = j by omega]
   exact hj
theorem RowG.fld {lo : Nat} {e : TypeId} {sz : Nat} {v : Value} {es : List (List Fld)} {w : World} (h : RowG lo e sz v es w) : ∃ la lc, v = (Fld.l la lc es).val ∧ (Fld.l la lc es).lies lo w := by
 rcases h.own.2 with ⟨rfl, q⟩ | ⟨g, cap, cur, rfl, e2, e3, e4, e5, e6, e7⟩
 ·have : es = [] := List.eq_nil_of_length_eq_zero q
  subst this
  exact ⟨none, 0, rfl, by simp, by simp [maxLen], .inl rfl⟩
 ·refine ⟨some ⟨g, 0, none⟩, cap, rfl, e4, e5, .inr ⟨g, 0, rfl, e2, (Array.getElem?_eq_some_iff.1 e3).1, rowsLie_of es 0 h.lie (fun j v hj => ?_)⟩⟩
  rw [← e7] at hj
  have hj' : cur[j]? = some v := by
   rw [List.getElem?_take] at hj
   split at hj
   ·simpa using hj
   ·cases hj
  simp [World.cell?, e3, hj']
def PgL (B : List UInt8) (els : List Sc) (n : Nat) (s : List UInt8) (E1 : Int) (es : List (List Fld)) (a : Nat) (E : Int) : Prop :=
 a ≤ B.length ∧ es.length ≤ n ∧ ((E1 ≠ 0 ∧ E = E1) ∨ (E1 = 0 ∧ ((∃ er, rep (readAll els) n s = .error er ∧ E = er ∧ er ≠ 0) ∨ (RepAt (readAll els) n s es.length (pvRows es) (B.drop a) ∧ E = 0))))
theorem PgL.nil {B : List UInt8} {els : List Sc} (n : Nat) {a : Nat} (E : Int) (ha : a ≤ B.length) : PgL B els n (B.drop a) E [] a E := by
 refine ⟨ha, Nat.zero_le _, ?_⟩
 by_cases h : E = 0
 ·exact .inr ⟨h, .inr ⟨RepAt.zero _ _ _, h⟩⟩
 ·exact .inl ⟨h, rfl⟩
theorem PgL.step {B : List UInt8} {els : List Sc} {n : Nat} {s : List UInt8} {E1 E E' : Int} {es : List (List Fld)} {gs : List Fld} {a a' : Nat} (h : PgL B els n s E1 es a E) (hn : es.length < n) (g : PgS B els (B.drop a) E gs a' E') : PgL B els n s E1 (es ++ [gs]) a' E' := by
 obtain ⟨h0, h1, h⟩ := h
 obtain ⟨g0, g⟩ := g
 refine ⟨g0, by simp; omega, ?_⟩
 rcases h with ⟨h2, rfl⟩ | ⟨rfl, ⟨er, h2, rfl, h3⟩ | ⟨h2, rfl⟩⟩
 ·rcases g with ⟨_, rfl⟩ | ⟨g1, _⟩
  ·exact .inl ⟨h2, rfl⟩
  ·exact absurd g1 h2
 ·rcases g with ⟨_, rfl⟩ | ⟨g1, _⟩
  ·exact .inr ⟨rfl, .inl ⟨_, h2, rfl, h3⟩⟩
  ·exact absurd g1 h3
 ·rcases g with ⟨g1, _⟩ | ⟨_, ⟨er, g1, rfl, g3⟩ | ⟨q, g1, rfl, g3⟩⟩
  ·exact absurd rfl g1
  ·exact .inr ⟨rfl, .inl ⟨_, h2.fails hn g1, rfl, g3⟩⟩
  ·refine .inr ⟨rfl, .inr ⟨?_, rfl⟩⟩
   have := h2.next hn g1
   rw [List.length_append, pvRows_app, g3]
   exact this
theorem PgL.done {B : List UInt8} {els : List Sc} {m : Int} {s : List UInt8} {n E0 E1 E : Int} {es : List (List Fld)} {a1 a : Nat} (la : Option Addr) (lc : Nat) (hm : 0 ≤ m) (hu : Pg B 0 (numP m s) E0 n a1 E1) (h : PgL B els n.toNat (B.drop a1) E1 es a E) (hn : es.length = n.toNat ∨ E ≠ 0) (hf : ∀ d ∈ es, fitsAll els d) : PgS B [.list m els] s E0 [.l la lc es] a E ∧ fitsAll [.list m els] [.l la lc es] := by
 obtain ⟨hl, hle, h⟩ := h
 obtain ⟨u0, hu'⟩ := hu
 have hfi : n ≤ m → 0 ≤ n → fitsAll [.list m els] [.l la lc es] := fun h1 h2 => by
  have : Sc.fits (.list m els) (.l la lc es) := by
   rw [Sc.fits]
   have q1 : (es.length : Int) ≤ (n.toNat : Int) := Int.ofNat_le.2 hle
   rw [Int.toNat_of_nonneg h2] at q1
   exact ⟨Int.le_trans q1 h1, hf⟩
  simp [fitsAll, this]
 rcases hu' with ⟨h1, rfl, rfl⟩ | ⟨rfl, ⟨er, h1, rfl, rfl⟩ | ⟨r, h1, rfl, h3⟩⟩
 ·refine ⟨⟨hl, .inl ⟨h1, ?_⟩⟩, hfi hm (by omega)⟩
  rcases h with ⟨_, rfl⟩ | ⟨q, _⟩
  ·rfl
  ·exact absurd q h1
 ·have hne := numP_err h1
  refine ⟨⟨hl, .inr ⟨rfl, .inl ⟨E1, by simp [readAll, Sc.read, h1], ?_, hne⟩⟩⟩, hfi hm (by omega)⟩
  rcases h with ⟨_, rfl⟩ | ⟨q, _⟩
  ·rfl
  ·exact absurd q hne
 ·have hb := pg_num (B := B) (E := 0) (E' := 0) hm ⟨u0, .inr ⟨rfl, .inr ⟨r, h1, rfl, h3⟩⟩⟩
  have hb2 : Sc.fits (.num m) (.i n) := get_fits hb.2 0 rfl rfl
  rw [Sc.fits] at hb2
  refine ⟨⟨hl, .inr ⟨rfl, ?_⟩⟩, hfi hb2.2 hb2.1⟩
  rw [h3] at h
  rcases h with ⟨q, _⟩ | ⟨_, ⟨er, h4, rfl, h5⟩ | ⟨h4, rfl⟩⟩
  ·exact absurd rfl q
  ·exact .inl ⟨_, by simp [readAll, Sc.read, h1, h4], rfl, h5⟩
  ·rcases hn with hn | hn
   ·rw [hn] at h4
    exact .inr ⟨_, by simp [readAll, Sc.read, h1, h4.ends, pvAll, Fld.pv], rfl, rfl⟩
   ·exact absurd rfl hn
structure Lf (gb lo : Nat) (B : List UInt8) (els : List Sc) (ty : TypeId) (sz n : Nat) (s : List UInt8) (E1 : Int) (w0 : World) (v : Value) (es : List (List Fld)) (a : Nat) (E : Int) (w : World) : Prop where
 g : Gt w gb B a E
 row : RowG lo ty sz v es w
 old : gb < lo
 but : But (fun k => k = gb) w0 w
 size : w0.heap.size = lo
 fit : ∀ d ∈ es, fitsAll els d
 pg : PgL B els n s E1 es a E
theorem RowG.blk {lo : Nat} {e : TypeId} {sz : Nat} {v : Value} {es : List (List Fld)} {w : World} (h : RowG lo e sz v es w) (b : Nat) (hb : v.ownBlock = some b) : lo ≤ b ∧ b < w.heap.size := by
 rcases h.own.2 with ⟨rfl, _⟩ | ⟨g, cap, cur, rfl, e2, e3, _⟩
 ·cases hb
 ·injection hb with hb
  subst hb
  exact ⟨e2, (Array.getElem?_eq_some_iff.1 e3).1⟩
theorem Lf.step {gb lo : Nat} {B : List UInt8} {els : List Sc} {ty : TypeId} {sz n : Nat} {s : List UInt8} {E1 : Int} {w0 : World} {v v' : Value} {es : List (List Fld)} {gs : List Fld} {a a' : Nat} {E E' : Int} {w w2 w3 : World} (h : Lf gb lo B els ty sz n s E1 w0 v es a E w) (hn : es.length < n) (g : Gt w2 gb B a' E') (hb : But (fun k => k = gb) w w2) (hl : lieAll w.heap.size w2 gs) (hp : PgS B els (B.drop a) E gs a' E' ∧ fitsAll els gs) (hz : gs.length = sz) (hown : w3.ownsRow lo ty sz v' (es.length + 1) (flatV es ++ gs.map Fld.val)) (hg : w2.grownBy w3 v.ownBlock) (hat : v'.ownBlock = v.ownBlock ∨ v'.ownBlock = some w2.heap.size) : Lf gb lo B els ty sz n s E1 w0 v' (es ++ [gs]) a' E' w3 := by
 have hlw : lo ≤ w.heap.size := by rw [← h.size]; exact h.but.size
 have r2 : RowG lo ty sz v es w2 := h.row.hi (Hi.of_but hb (fun k q => by have := h.old; omega))
 have hold := h.old
 have Bg : But (fun k => v.ownBlock = some k) w2 w3 := ⟨hg.os, hg.tape, hg.output, hg.size, fun k hk q => hg.block k hk (fun e => q e.symm)⟩
 refine ⟨Bg.blk g (fun q => by have := (h.row.blk _ q).1; omega), r2.add hl hlw (fun b q => (h.row.blk b q).2) hz hown hg hat, hold, (h.but.trans hb).trans_new Bg (fun k hk q => ?_), h.size, fun d hd => ?_, h.pg.step hn hp.1⟩
 ·have := (h.row.blk _ q).1
  have := h.size
  omega
 ·rcases List.mem_append.1 hd with hd | hd
  ·exact h.fit d hd
  ·rw [List.mem_singleton.1 hd]
   exact hp.2
theorem wpList_on {P : Program} {ops : Array Oper} {rest : List Oper} {o : Oper} {a : Act} {w : World} {Q : Exit → Act → World → Prop} (hw : Region.wanted o (yielded ops a.tmps) = true)
  (h : ∀ K : Act → World → Prop, (∀ a w, wpList P ops Q rest a w → K a w) → o.wp P a w K Q) : wpList P ops Q (o :: rest) a w :=
 wpList_step fun K hK => by rw [if_pos hw]; exact h K hK
theorem Blk.range {w : World} {b : Nat} {C : Array Value} {t : TypeId} (h : Blk w b C t) : w.rangeAt b 0 C.toList := fun j v hv => by
 rw [h.cell, Nat.zero_add]
 simpa using hv
theorem wpList_load_whole {P : Program} {ops : Array Oper} {rest : List Oper} {op : Oper} {a : Act} {w : World} {Q : Exit → Act → World → Prop} (hw : Region.wanted op (yielded ops a.tmps) = true) (ty : TypeId) (x : Operand) (ho : op.op = .load ty x)
  (b : Nat) (hx : a.eval x = .pointer (some ⟨b, 0, none⟩)) (C : Array Value) (t : TypeId) (d : TypeDesc) (hc : Blk w b C t)
  (hu : P.underlying ty = some d) (hd : d.isRow = true) (hi : (P.info? ty).map (·.size) = some C.size)
  (h : wpList P ops Q rest (a.put op.dst (.agg C)) w) : wpList P ops Q (op :: rest) a w :=
 wpList_on hw fun _ hK => wp_load_mid ty x ho b 0 hx C.toList d hc.range hu hd (by rw [Array.length_toList]; exact hi) (hK _ _ (by rw [Array.toArray_toList]; exact h))
end Go.Proofs.YtackcbpabjhmpaaGreat
