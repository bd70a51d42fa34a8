import Derived.Test.YtpofgnlkhkednaaGreatDoorM07
import Derived.Maps.AppendAt
import Derived.OwnWalk
namespace Go.Proofs.YtpofgnlkhkednaaGreatDoor
open Go.RowKit
set_option linter.unusedVariables false
set_option linter.unusedSimpArgs false
set_option maxRecDepth 20000
set_option maxHeartbeats 8000000
theorem bnew {w u : World} {b x i : Nat} {v : Value} (h : But (fun k => k = b) w u) (hx : w.heap.size ≤ x) : But (fun k => k = b) w (u.setCell ⟨x, i, none⟩ v) :=
 h.trans_new (But.set (S := fun k => k = x) u (p := ⟨x, i, none⟩) rfl v) (fun k hk q => by omega)
theorem bal {S : Nat → Prop} {w u : World} (h : But S w u) (o : Obj) : But S w (u.alloc o) := h.trans (But.of_below ((Below.refl _ _).alloc (Nat.le_refl _) _))
theorem bbut {w u v : World} {b : Nat} (h : But (fun k => k = b) w u) (k : But (fun k => k = b) u v) : But (fun k => k = b) w v := h.trans k
theorem Hi.refl (lo : Nat) (w : World) : Hi lo w w := ⟨Nat.le_refl _, fun _ _ _ => rfl⟩
theorem Hi.trans {lo : Nat} {a b c : World} (h : Hi lo a b) (k : Hi lo b c) : Hi lo a c := ⟨Nat.le_trans h.size k.size, fun i h1 h2 => (k.block i h1 (Nat.lt_of_lt_of_le h2 h.size)).trans (h.block i h1 h2)⟩
theorem Hi.set {lo : Nat} {w u : World} {x i : Nat} {v : Value} (h : Hi lo w u) (hx : x < lo) : Hi lo w (u.setCell ⟨x, i, none⟩ v) :=
 h.trans ⟨by rw [World.size_setCell]; exact Nat.le_refl _, fun k h1 h2 => Below.heap_setCell _ _ _ _ (fun e => by have e : k = x := e; omega)⟩
theorem Hi.al {lo : Nat} {w u : World} (h : Hi lo w u) (o : Obj) : Hi lo w (u.alloc o) := h.trans (Hi.of_below ((Below.refl _ _).alloc (Nat.le_refl _) _))
theorem Hi.but {lo b : Nat} {w u v : World} (h : Hi lo w u) (k : But (fun k => k = b) u v) (hb : b < lo) : Hi lo w v := h.trans (Hi.of_but k (fun i q => by omega))
theorem Blk.four {w : World} {b : Nat} {x y z u : Value} {t : TypeId} (k : Blk w b #[x, y, z, u] t) : b < w.heap.size ∧ (w.cell? ⟨b, 0, none⟩ = some x ∧ w.cell? ⟨b, 1, none⟩ = some y ∧ w.cell? ⟨b, 2, none⟩ = some z ∧ w.cell? ⟨b, 3, none⟩ = some u) ∧ w.frozen? ⟨b, 0, none⟩ = false ∧ w.frozen? ⟨b, 1, none⟩ = false ∧ w.frozen? ⟨b, 2, none⟩ = false ∧ w.frozen? ⟨b, 3, none⟩ = false :=
 ⟨k.lt, ⟨(k.cell 0).trans rfl, (k.cell 1).trans rfl, (k.cell 2).trans rfl, (k.cell 3).trans rfl⟩, k.frozen 0, k.frozen 1, k.frozen 2, k.frozen 3⟩
def exC (op n : Int) (s : Key) (la : Option Addr) (ln lc : Nat) : Array Value := #[.int .i64 op, .int .i64 n, .string (str s), .slice la ln lc]
def exF (op n : Int) (s : Key) (la : Option Addr) (lc : Nat) (es : List (List Fld)) : List Fld := [.i op, .i n, .s s, .l la lc es]
def ExE (b : Nat) (F : PM EV) (S : ES) (w : World) (e : Ending) (w' : World) : Prop :=
 ∃ op n s la lc es, e = .returned (.agg (exC op n s la es.length lc)) ∧ lieAll w.heap.size w' (exF op n s la lc es) ∧ But (fun k => k = b) w w' ∧ ∃ S', RAt w' b S' ∧ need S' ≤ need S ∧ Rel F S (pvAll (exF op n s la lc es)) S'
theorem RAt.setOther {w : World} {b x i : Nat} {v : Value} {S : ES} (R : RAt w b S) (hx : b ≠ x) (h5 : 9 ≤ x) : RAt (w.setCell ⟨x, i, none⟩ v) b S := by
 have Q : But (fun k => k = x) w (w.setCell ⟨x, i, none⟩ v) := But.set (S := fun k => k = x) w (p := ⟨x, i, none⟩) rfl v;refine ⟨⟨Nat.le_trans R.gl.sz Q.size, fun g hg j u hu => ?_⟩, R.b5, ?_⟩
 ·rw [Q.cell (p := ⟨g, 0 + j, none⟩) (Nat.lt_of_lt_of_le (by show g < 9; omega) R.gl.sz) (by show ¬ g = x; omega)];exact R.gl.tab g hg j u hu
 ·cases S with
  | ok σ => exact ⟨Q.blk R.box.1 hx, R.box.2⟩
  | error e =>
   obtain ⟨h0, r, lv, kb⟩ := R.box;exact ⟨h0, r, lv, Q.blk kb hx⟩
theorem ex_fin {fn : Func} {i x b : Nat} {A : Act} {F : PM EV} {S S' : ES} {w u : World} {op n : Int} {s : Key} {la : Option Addr} {lc : Nat} {es : List (List Fld)} {t : TypeId} (hres : fn.results = #[.cell i 80]) (hi : A.eval (.tmp i) = .pointer (some ⟨x, 0, none⟩)) (hd : A.defers = [])
  (k : Blk u x (exC op n s la es.length lc) t) (hl : lieAll w.heap.size u (exF op n s la lc es)) (B : But (fun k => k = b) w u) (R : RAt u b S') (hN : need S' ≤ need S) (h : Rel F S (pvAll (exF op n s la lc es)) S') : bodyPost Tryz.prog fn (ExE b F S w) .ret A u :=
 ret_box hres hi hd (by kernel_rfl) (by kernel_rfl) k ⟨op, n, s, la, lc, es, rfl, hl, B, S', R, hN, h⟩
theorem ex_give {fn : Func} {i x b lo : Nat} {A : Act} {F : PM EV} {S S' : ES} {w u : World} {op n : Int} {s : Key} {la : Option Addr} {lc : Nat} {es : List (List Fld)} {c0 c1 c2 c3 : Value} (hres : fn.results = #[.cell i 80]) (hi : A.eval (.tmp i) = .pointer (some ⟨x, 0, none⟩)) (hd : A.defers = [])
  (k : Blk u x #[c0, c1, c2, c3] 80) (hb : b < w.heap.size) (hx : w.heap.size ≤ x) (hlo : x < lo) (hl : lieAll lo u (exF op n s la lc es)) (B : But (fun k => k = b) w u) (R : RAt u b S') (hN : need S' ≤ need S) (h : Rel F S (pvAll (exF op n s la lc es)) S') :
  bodyPost Tryz.prog fn (ExE b F S w) .ret A ((((u.setCell ⟨x, 0, none⟩ (.int .i64 op)).setCell ⟨x, 1, none⟩ (.int .i64 n)).setCell ⟨x, 2, none⟩ (.string (str s))).setCell ⟨x, 3, none⟩ (.slice la es.length lc)) := by
 have B' : ∀ {u'}, But (fun k => k = x) u u' → But (fun k => k = b) w u' := fun q => B.trans_new q (fun k hk e => by omega);have Q : But (fun k => k = x) u ((((u.setCell ⟨x, 0, none⟩ (.int .i64 op)).setCell ⟨x, 1, none⟩ (.int .i64 n)).setCell ⟨x, 2, none⟩ (.string (str s))).setCell ⟨x, 3, none⟩ (.slice la es.length lc)) := bset (bset (bset (bset (But.refl _ _))));refine ret_box hres hi hd (by kernel_rfl) (by kernel_rfl) ((((k.set 0 _).set 1 _).set 2 _).set 3 _) ⟨op, n, s, la, lc, es, rfl, (hl.hi (Hi.of_but Q fun k q => by omega)).mono (by omega), B' Q, S', ⟨?_, R.b5, ?_⟩, hN, h⟩
 ·have hz := R.gl.sz;refine ⟨Nat.le_trans R.gl.sz Q.size, fun g hg j v hv => ?_⟩;rw [Q.cell (p := ⟨g, 0 + j, none⟩) (Nat.lt_of_lt_of_le (by show g < 9; omega) hz) (by have := R.b5; show ¬ g = x; omega)];exact R.gl.tab g hg j v hv
 ·have hne : ¬ b = x := by omega
  cases S' with
  | ok σ => exact ⟨Q.blk R.box.1 hne, R.box.2⟩
  | error e =>
   obtain ⟨h0, r, lv, kb⟩ := R.box;exact ⟨h0, r, lv, Q.blk kb hne⟩
def ExC (n : Nat) : Prop := ∀ r : Int, 1 ≤ r → r ≤ 7 → ∀ b S w, RAt w b S → (need S : Int) + 20 ≤ n + r → Calls Tryz.prog 81 #[.pointer (some ⟨b, 0, none⟩), .int .i64 r] w (ExE b (exprT n r) S w)
theorem inner_b {n : Nat} (H : ExC n) (o c : Key) (b : Nat) (S : ES) (w : World) (R : RAt w b S) (hn : need S + 4 ≤ n + 1) (hn2 : 20 ≤ n + 1) : Calls Tryz.prog 86 #[.pointer (some ⟨b, 0, none⟩), .string (str o), .string (str c)] w (ExE b (innerT (n + 1) o c) S w) := by
 have zb := R.lt;have bA : Below w.heap.size w (w.alloc (.cells #[.int .i64 0, .int .i64 0, .string ⟨#[]⟩, .slice none 0 0] 80)) := (Below.refl _ _).alloc (Nat.le_refl _) _;have kA := Blk.new w #[.int .i64 0, .int .i64 0, .string ⟨#[]⟩, .slice none 0 0] 80
 go_enter Tryz.func86, Tryz.ntmps86
 go_wp2_with fail
 refine (open_u o b S _ (R.below bA)).mono ?_;rintro e w1 ⟨rfl, B1, S1, R1, h1⟩;have k1 := B1.blk kA (by omega);have B01 : But (fun k => k = b) w w1 := bbut (But.of_below bA) B1;have hz1 : w.heap.size < w1.heap.size := k1.lt;have hd1 := need_open h1
 have hf : (need S1 : Int) + 20 ≤ n + 1 := by
  by_cases hs : stands o S = true
  ·have := hd1.2 hs; omega
  ·have : need S1 = 0 := by
    obtain ⟨x, S0, q1, q2⟩ := Rel.unbind h1;have e := q1.stay;subst e
    cases S0 with
    | error e => have h1 : S1 = .error e := h1; rw [h1]; rfl
    | ok σ =>
     have hs' : ¬ σ.now = .fixed o := fun q => hs (decide_eq_true q);have : openT o σ = .error (errT σ) := by simp [openT, bnd, isT, hs', pur, takeT]
     rw [h1.get_err this]; rfl
   omega
 go_wp2_with fail
 refine (H 1 (by omega) (by omega) b S1 w1 R1 hf).mono ?_;rintro e w2 ⟨op, m, s, la, lc, es, rfl, hl, B2, S2, R2, hd2, h2⟩;unfold exC;have k2 := B2.blk k1 (by omega);have B02 := bbut B01 B2;clear bA kA k1 B1;have bC : Below w2.heap.size w2 (w2.alloc (.cells #[.int .i64 op, .int .i64 m, .string (str s), .slice la es.length lc] 80)) := (Below.refl _ _).alloc (Nat.le_refl _) _;have kC := Blk.new w2 #[.int .i64 op, .int .i64 m, .string (str s), .slice la es.length lc] 80;have k2' := k2.below bC k2.lt;have R2' := R2.below bC;have hz2 := B2.size
 go_wp2_with fail
 refine (shut_u c b S2 _ R2').mono ?_;rintro e w3 ⟨rfl, B3, S3, R3, h3⟩;have k3 := B3.blk k2' (by omega);have kD := B3.blk kC (by omega);have B03 := bbut (bal B02 _) B3;have hl3 : lieAll w1.heap.size w3 (exF op m s la lc es) := hl.hi (((Hi.refl _ _).al _).but B3 (by omega));have hd3 := need_shut h3;have HD : Hid (need S3 ≤ need S) := by have := hd1.1; show _ ≤ _; omega
 have HR : Hid (Rel (innerT (n + 1) o c) S (pvAll (exF op m s la lc es)) S3) := by
  show Rel (innerT (n + 1) o c) S _ _;rw [innerT];exact h1.bind (h2.bind (h3.bind (Rel.pur _ _)))
 clear h1 h2 h3 hd1 hd2 hd3 hf bC kC k2 k2' R2' hl B2 B3 B01 B02 R2 R1 H hn;obtain ⟨z1, ⟨c0, c1, c2, c3⟩, f0, f1, f2, f3⟩ := k3.four;obtain ⟨z2, ⟨d0, d1, d2, d3⟩, g0, g1, g2, g3⟩ := kD.four
 go_wp2
 exact ex_give Tryz.results86 rfl rfl k3 zb (Nat.le_refl _) hz1 hl3 B03 R3 HD.out HR.out
theorem one_lies {lo g : Nat} {w : World} {fs : List Fld} {t : TypeId} (k : Blk w g (fs.map Fld.val).toArray t) (hg : lo ≤ g) (hl : lieAll lo w fs) : (Fld.l (some ⟨g, 0, none⟩) 1 [fs]).lies lo w := by
 refine ⟨by simp, by unfold maxLen; omega, .inr ⟨g, 0, rfl, hg, k.lt, ?_, trivial⟩⟩;exact cellsLie_of fs 0 hl (fun j v hv => by rw [Nat.zero_add, k.cell]; simpa using hv)
theorem lies_none (lo : Nat) (w : World) : (Fld.l none 0 []).lies lo w := ⟨by simp, by unfold maxLen; omega, .inl rfl⟩
theorem exF_lie {lo : Nat} {w : World} {op n : Int} {s : Key} {la : Option Addr} {lc : Nat} {es : List (List Fld)} (h1 : -9223372036854775808 ≤ op ∧ op ≤ 9223372036854775807) (h2 : -9223372036854775808 ≤ n ∧ n ≤ 9223372036854775807) (h3 : (Fld.l la lc es).lies lo w) : lieAll lo w (exF op n s la lc es) := fun f hf => by
 simp only [exF, List.mem_cons, List.not_mem_nil, or_false] at hf;rcases hf with rfl | rfl | rfl | rfl
 ·exact h1
 ·exact h2
 ·trivial
 ·exact h3
theorem one_fin {fn : Func} {i x b lo : Nat} {A : Act} {F : PM EV} {S S' : ES} {w u : World} {op n : Int} {s : Key} {fs : List Fld} {C : Array Value} {c0 c1 c2 c3 : Value} (hres : fn.results = #[.cell i 80]) (hi : A.eval (.tmp i) = .pointer (some ⟨x, 0, none⟩)) (hd : A.defers = [])
  (hC : C = (fs.map Fld.val).toArray) (k : Blk u x #[c0, c1, c2, c3] 80) (hb : b < w.heap.size) (hx : w.heap.size ≤ x) (hlo : x < lo) (hop : -9223372036854775808 ≤ op ∧ op ≤ 9223372036854775807) (hn : -9223372036854775808 ≤ n ∧ n ≤ 9223372036854775807) (hl : lieAll lo u fs) (B : But (fun k => k = b) w u) (R : RAt u b S') (hN : need S' ≤ need S) (h : Rel F S (pvAll (exF op n s (some ⟨u.heap.size, 0, none⟩) 1 [fs])) S') :
  bodyPost Tryz.prog fn (ExE b F S w) .ret A (((((u.setCell ⟨x, 0, none⟩ (.int .i64 op)).setCell ⟨x, 1, none⟩ (.int .i64 n)).setCell ⟨x, 2, none⟩ (.string (str s))).setCell ⟨x, 3, none⟩ (.slice (some ⟨u.heap.size, 0, none⟩) 1 1)).alloc (.cells C 80)) := by
 subst hC;have hxu := k.lt;have hz := R.gl.sz;have hb5 := R.b5;have hzu := B.size;have k1 := (((k.set 0 (.int .i64 op)).set 1 (.int .i64 n)).set 2 (.string (str s))).set 3 (.slice (some ⟨u.heap.size, 0, none⟩) 1 1);have B1 := bnew (i := 3) (v := .slice (some ⟨u.heap.size, 0, none⟩) 1 1) (bnew (i := 2) (v := .string (str s)) (bnew (i := 1) (v := .int .i64 n) (bnew (i := 0) (v := .int .i64 op) B hx) hx) hx) hx;have R1 := (((R.setOther (x := x) (i := 0) (v := .int .i64 op) (by omega) (by omega)).setOther (x := x) (i := 1) (v := .int .i64 n) (by omega) (by omega)).setOther (x := x) (i := 2) (v := .string (str s)) (by omega) (by omega)).setOther (x := x) (i := 3) (v := .slice (some ⟨u.heap.size, 0, none⟩) 1 1) (by omega) (by omega);have hl1 := hl.hi (((((Hi.refl _ _).set (x := x) (i := 0) (v := .int .i64 op) hlo).set (x := x) (i := 1) (v := .int .i64 n) hlo).set (x := x) (i := 2) (v := .string (str s)) hlo).set (x := x) (i := 3) (v := .slice (some ⟨u.heap.size, 0, none⟩) 1 1) hlo);have hs1 : ((((u.setCell ⟨x, 0, none⟩ (.int .i64 op)).setCell ⟨x, 1, none⟩ (.int .i64 n)).setCell ⟨x, 2, none⟩ (.string (str s))).setCell ⟨x, 3, none⟩ (.slice (some ⟨u.heap.size, 0, none⟩) 1 1)).heap.size = u.heap.size := by simp
 generalize (((u.setCell ⟨x, 0, none⟩ (.int .i64 op)).setCell ⟨x, 1, none⟩ (.int .i64 n)).setCell ⟨x, 2, none⟩ (.string (str s))).setCell ⟨x, 3, none⟩ (.slice (some ⟨u.heap.size, 0, none⟩) 1 1) = v at *
 have kR := Blk.new v (fs.map Fld.val).toArray 80;rw [hs1] at kR;have bE : Below v.heap.size v (v.alloc (.cells (fs.map Fld.val).toArray 80)) := (Below.refl _ _).alloc (Nat.le_refl _) _;have hl2 := (hl1.hi (Hi.of_below (lo := lo) bE)).mono (show w.heap.size ≤ lo by omega);refine ex_fin (la := some ⟨u.heap.size, 0, none⟩) (lc := 1) (es := [fs]) (s := s) (n := n) (op := op) hres hi hd (k1.below bE k1.lt) (exF_lie hop hn (one_lies kR (by omega) hl2)) (bal B1 _) (R1.below bE) hN h
theorem RAt.up {w : World} {b : Nat} {S : ES} (R : RAt w b S) : ∃ lv, w.cell? ⟨b, 4, none⟩ = some (.int .i64 lv) ∧ w.frozen? ⟨b, 4, none⟩ = false ∧ ∃ S', RAt (w.setCell ⟨b, 4, none⟩ (.int .i64 (wrap64 (lv - 1)))) b S' ∧ Rel upT S () S' := by
 obtain ⟨g, h5, hx⟩ := R
 cases S with
 | ok σ =>
  obtain ⟨k, hr⟩ := hx;exact ⟨σ.lv, (k.cell 4).trans rfl, k.frozen 4, .ok { σ with lv := wrap64 (σ.lv - 1) }, rat g h5 (bset (But.refl _ _)) ⟨k.set 4 _, hr⟩, Rel.of_ok rfl⟩
 | error e0 =>
  obtain ⟨h0, r, lv, k⟩ := hx;exact ⟨lv, (k.cell 4).trans rfl, k.frozen 4, .error e0, rat g h5 (bset (But.refl _ _)) ⟨h0, r, _, k.set 4 _⟩, rfl⟩
theorem not_b {n : Nat} (H : ExC n) (b : Nat) (S : ES) (w : World) (R : RAt w b S) (hs : stands kNot S = true) (hn : need S + 12 ≤ n + 1) : Calls Tryz.prog 89 #[.pointer (some ⟨b, 0, none⟩)] w (ExE b (notT (n + 1)) S w) := by
 have zb := R.lt;have bA : Below w.heap.size w (w.alloc (.cells #[.int .i64 0, .int .i64 0, .string ⟨#[]⟩, .slice none 0 0] 80)) := (Below.refl _ _).alloc (Nat.le_refl _) _;have kA := Blk.new w #[.int .i64 0, .int .i64 0, .string ⟨#[]⟩, .slice none 0 0] 80
 go_enter Tryz.func89, Tryz.ntmps89
 go_wp2_with fail
 refine (deeper_u b S _ (R.below bA)).mono ?_;rintro e w1 ⟨rfl, B1, S1, R1, h1⟩;have k1 := B1.blk kA (by omega);have B01 : But (fun k => k = b) w w1 := bbut (But.of_below bA) B1;have hz1 : w.heap.size < w1.heap.size := k1.lt
 go_wp2_with fail
 refine (take_u kNot b S1 w1 R1).mono ?_;rintro e w2 ⟨rfl, B2, S2, R2, h2⟩;have k2 := B2.blk k1 (by omega);have B02 := bbut B01 B2;have ho : Rel (openT kNot) S () S2 := (rel_is kNot S).bind (by rw [hs]; exact Rel.bind (F := deeperT) h1 h2);have hd2 := (need_open ho).2 hs;have hz2 := B2.size
 go_wp2_with fail
 refine (H 3 (by omega) (by omega) b S2 w2 R2 (by omega)).mono ?_;rintro e w3 ⟨op, m, s, la, lc, es, rfl, hl, B3, S3, R3, hd3, h3⟩;unfold exC;have k3 := B3.blk k2 (by omega);have B03 := bbut B02 B3;have hz3 := B3.size;have bC : Below w3.heap.size w3 (w3.alloc (.cells #[.int .i64 op, .int .i64 m, .string (str s), .slice la es.length lc] 80)) := (Below.refl _ _).alloc (Nat.le_refl _) _;have kC := Blk.new w3 #[.int .i64 op, .int .i64 m, .string (str s), .slice la es.length lc] 80;have k4 := k3.below bC k3.lt;have R4 := R3.below bC;have hl4 := hl.hi (Hi.of_below (lo := w2.heap.size) bC);have B04 := bal B03 (.cells #[.int .i64 op, .int .i64 m, .string (str s), .slice la es.length lc] 80);have hz4 : w3.heap.size < (w3.alloc (.cells #[.int .i64 op, .int .i64 m, .string (str s), .slice la es.length lc] 80)).heap.size := kC.lt;obtain ⟨z2, ⟨d0, d1, d2, d3⟩, g0, g1, g2, g3⟩ := kC.four;obtain ⟨lv, q4, p4, S5, R5, h5⟩ := R4.up;obtain ⟨z1, ⟨c0, c1, c2, c3⟩, f0, f1, f2, f3⟩ := k4.four
 go_upto_region 4 with fail
 generalize w3.alloc (.cells #[.int .i64 op, .int .i64 m, .string (str s), .slice la es.length lc] 80) = w4 at *
 have hne : w.heap.size ≠ b := by omega
 have hne2 : w3.heap.size ≠ b := by omega
 have k5 := (k4.setOther ⟨b, 4, none⟩ hne (.int .i64 (wrap64 (lv - 1))));have kD := (kC.setOther ⟨b, 4, none⟩ hne2 (.int .i64 (wrap64 (lv - 1))));have hl5 := hl4.hi ((Hi.refl _ _).set (x := b) (i := 4) (v := .int .i64 (wrap64 (lv - 1))) (by omega));have B05 := bset (i := 4) (v := .int .i64 (wrap64 (lv - 1))) B04;have hd5 := need_up h5
 have HR : Hid (∀ la', Rel (notT (n + 1)) S (pvAll (exF 8 0 [] la' 1 [exF op m s la lc es])) S5) := by
  intro la';show Rel (notT (n + 1)) S _ _;rw [notT];exact h1.bind (h2.bind (h3.bind (h5.bind (Rel.pur _ _))))
 clear kC k4 R4 hl4 B04 h1 h2 h3 h5 ho d0 d1 d2 d3 g0 g1 g2 g3 c0 c1 c2 c3 f0 f1 f2 f3 z1 z2
 go_upto_region 5 with fail
 generalize w4.setCell ⟨b, 4, none⟩ (.int .i64 (wrap64 (lv - 1))) = w5 at *
 obtain ⟨z1, ⟨c0, c1, c2, c3⟩, f0, f1, f2, f3⟩ := k5.four;obtain ⟨z2, ⟨d0, d1, d2, d3⟩, g0, g1, g2, g3⟩ := kD.four
 go_wp2
 exact one_fin Tryz.results89 rfl rfl rfl k5 zb (Nat.le_refl _) (by omega : w.heap.size < w2.heap.size) (by omega) (by omega) hl5 B05 R5 (by omega) (HR.out _)
theorem wp_append_run {P : Program} {w : World} {o : Oper} {a : Act} {K : Act → World → Prop} {Q : Exit → Act → World → Prop} (s x : Operand) (t : TypeId) (ho : o.op = .call { callee := .builtin .append, args := #[s, x], argTypes := #[t, t] })
  (v1 v2 v : Value) (w' : World) (hs : a.eval s = v1) (hx : a.eval x = v2) (hr : (Builtin.append_ #[t, t] o.type #[v1, v2]).run P w = .ok v w') (h : K (a.put o.dst v) w') : o.wp P a w K Q := by
 unfold Oper.wp execOp;simp only [ho, resolve, invoke, builtin, Sem.run_bind, Sem.run_pure, Result.andThen_ok, List.map_toArray, List.map_cons, List.map_nil, hs, hx, hr];exact h
theorem wpList_append_run {P : Program} {w : World} {ops : Array Oper} {rest : List Oper} {o : Oper} {a : Act} {Q : Exit → Act → World → Prop} (hgd : o.guard = none) (s x : Operand) (t : TypeId) (ho : o.op = .call { callee := .builtin .append, args := #[s, x], argTypes := #[t, t] })
  (v1 v2 v : Value) (w' : World) (hs : a.eval s = v1) (hx : a.eval x = v2) (hr : (Builtin.append_ #[t, t] o.type #[v1, v2]).run P w = .ok v w') (h : wpList P ops Q rest (a.put o.dst v) w') : wpList P ops Q (o :: rest) a w :=
 wpList_plain hgd fun _ hK => wp_append_run s x t ho v1 v2 v w' hs hx hr (hK _ _ h)
theorem info_partsJ {P : Program} {t : TypeId} {z : Value} {n b : Nat} (h : (P.info? t).map (fun i => (i.zero, i.size, i.bytes)) = some (some z, n, b)) : ∃ i, P.info? t = some i ∧ i.zero = some z ∧ i.size = n ∧ i.bytes = b := by
 cases hi : P.info? t with
 | none => rw [hi] at h; cases h
 | some i =>
  rw [hi] at h;simp only [Option.map_some, Option.some.injEq, Prod.mk.injEq] at h;exact ⟨i, rfl, h.1, h.2.1, h.2.2⟩
theorem slice_shape {w : World} {lo : Nat} {e : TypeId} {sz n : Nat} {v : Value} {xs : List Value} (h : w.ownsRow lo e sz v n xs) : ∃ la lc, v = .slice la n lc := by
 rcases h.2 with ⟨rfl, rfl⟩ | ⟨g, cap, cur, rfl, _⟩
 ·exact ⟨none, 0, rfl⟩
 ·exact ⟨_, _, rfl⟩
theorem app_one (w : World) (base : Nat) (t e : TypeId) (z : Value) (size bytes : Nat) (ht : Tryz.prog.underlying t = some (.slice e)) (hi : (Tryz.prog.info? e).map (fun i => (i.zero, i.size, i.bytes)) = some (some z, size, bytes)) (hzs : z.cells.size = size) (hsz : 0 < size) (hby : bytes ≤ 1000)
  (v : Value) (n : Nat) (xs : List Value) (hown : w.ownsRow base e size v n xs) (hn : n ≤ 1000000) (news : Array Value) (hl : news.size = size) (h1 : ∀ u ∈ news.toList, u.oneCell' = true) (hb : base ≤ w.heap.size) :
  ∃ v' w', (Builtin.append_ #[t, t] t #[v, .slice (some ⟨w.heap.size, 0, none⟩) 1 1]).run Tryz.prog (w.alloc (.cells news e)) = .ok v' w' ∧ w'.ownsRow base e size v' (n + 1) (xs ++ news.toList) ∧ (w.alloc (.cells news e)).grownBy w' v.ownBlock ∧ (v'.ownBlock = v.ownBlock ∨ v'.ownBlock = some (w.alloc (.cells news e)).heap.size) := by
 obtain ⟨i, hi1, hi2, hi3, hi4⟩ := info_partsJ hi;have kn := Blk.new w news e
 have ho : (w.alloc (.cells news e)).ownsRow base e size v n xs := by
  refine ⟨hown.1, ?_⟩;rcases hown.2 with q | ⟨g, cap, cur, e1, e2, e3, e4⟩
  ·exact .inl q
  ·exact .inr ⟨g, cap, cur, e1, e2, by
    have hlt := (Array.getElem?_eq_some_iff.1 e3).1
    rw [Below.heap_alloc _ _ _ hlt]; exact e3, e4⟩
 have hby2 : (n + 1) * bytes ≤ 140737488355328 := Nat.le_trans (Nat.mul_le_mul (by omega : n + 1 ≤ 1000001) hby) (by omega)
 obtain ⟨v', w', h2, h3, h4, _, h5⟩ := run_append_own_at (P := Tryz.prog) (w.alloc (.cells news e)) base t t e i z size bytes ht hi1 hi2 hi3 hi4 hzs hsz v n xs ho ⟨w.heap.size, 0, none⟩ 1 1 news.toList (by simp [hl]) (fun j u hj => by
  have q := kn.cell j;rw [← Array.getElem?_toList, hj] at q;have e0 : (⟨w.heap.size, 0, none⟩ : Addr).add j = ⟨w.heap.size, j, none⟩ := by simp [Addr.add]; omega
  rw [e0]
  exact q) h1 (by unfold maxLen; omega) hby2 (by simp; omega)
 exact ⟨v', w', h2, h3, h4, h5⟩
end Go.Proofs.YtpofgnlkhkednaaGreatDoor
