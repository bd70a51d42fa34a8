import Derived.Test.YtpofgnlkhkednaaGreatDoorM04
namespace Go.Proofs.YtpofgnlkhkednaaGreatDoor
open Go.RowKit
set_option linter.unusedVariables false
set_option linter.unusedSimpArgs false
set_option maxRecDepth 20000
set_option maxHeartbeats 8000000
inductive XT where
 | mk (op n : Int) (s : Key) (ar : List XT)
def XT.op : XT → Int
 | .mk o _ _ _ => o
inductive ST where
 | mk (k : Int) (nm al ca : Key) (ty : Int) (es : List XT) (bs ls : List ST)
inductive PEv where
 | tok (s : Key)
 | up
 | down
 | far
 | odd
def tkn (s : Key) : List PEv := [.tok s]
def upV : List PEv := [.up]
def downV : List PEv := [.down]
def farV : List PEv := [.far]
def oddV : List PEv := [.odd]
def holdI (op : Int) : Int :=
 if op = 6 then 1 else if op = 7 then 2 else if op = 8 then 3 else if 9 ≤ op ∧ op ≤ 14 then 4 else if op = 15 ∨ op = 16 then 5 else if 17 ≤ op ∧ op ≤ 19 then 6 else 7
def isTwo (op : Int) : Bool := decide (op = 6 ∨ op = 7 ∨ 9 ≤ op ∧ op ≤ 19)
def opWord (op : Int) : Key :=
 if op = 6 then [111, 114] else if op = 7 then [97, 110, 100] else if op = 8 then [110, 111, 116] else if op = 9 then [61, 61] else if op = 10 then [33, 61] else if op = 11 then [60] else if op = 12 then [60, 61] else if op = 13 then [62] else if op = 14 then [62, 61] else if op = 15 then [43] else if op = 16 then [45] else if op = 17 then [42] else if op = 18 then [47] else if op = 19 then [37] else if op = 20 then [115, 101, 108, 102] else if op = 21 then [99, 97, 108, 108, 101, 114] else if op = 22 then [118, 97, 108, 117, 101] else if op = 23 then [104, 101, 105, 103, 104, 116] else if op = 24 then [98, 97, 108, 97, 110, 99, 101] else if op = 25 then [119, 104, 111] else if op = 26 then [110, 117, 109] else []
def nmB (s : Key) : Bool := !s.isEmpty && decide (s.length ≤ 16) && (s.head?.map isL).getD false && s.all goes && !wordL.contains s
def nameV (s : Key) : List PEv := if nmB s then tkn s else oddV ++ tkn s
def kindK (k : Int) : Key := if k = 1 then [110, 117, 109] else if k = 2 then [102, 108, 97, 103] else [119, 104, 111]
def kindV (k : Int) : List PEv := if 1 ≤ k ∧ k ≤ 3 then tkn (kindK k) else oddV
def digK (n : Nat) : Key := if n < 10 then [UInt8.ofNat (48 + n)] else digK (n / 10) ++ [UInt8.ofNat (48 + n % 10)]
termination_by n
def brkV (r op : Int) (b : List PEv) : List PEv := if holdI op < r then upV ++ tkn [40] ++ b ++ tkn [41] ++ downV else b
def sepV : List (List PEv) → List PEv
 | [] => []
 | [b] => b
 | b :: r => b ++ tkn [44] ++ sepV r
def argsV (bs : List (List PEv)) : List PEv := (if 8 < bs.length then farV else []) ++ upV ++ tkn [40] ++ sepV bs ++ tkn [41] ++ downV
def takesI (op : Int) (n : Nat) : Nat := if isTwo op then 2 else if op = 8 ∨ op = 24 ∨ op = 25 ∨ op = 26 ∨ op = 4 then 1 else if op = 5 then n else 0
def namedI (op : Int) : Bool := decide (op = 3 ∨ op = 4 ∨ op = 5)
def rightN (op n : Int) : Bool := decide (n = 0 ∨ op = 1 ∧ 0 < n ∧ n ≤ 1099511627775 ∨ op = 2 ∧ n = 1)
def okX (op n : Int) (s : Key) (k : Nat) : Bool := decide (1 ≤ op ∧ op ≤ 26) && (k == takesI op k) && (namedI op == !s.isEmpty) && rightN op n
def shX (op n : Int) (s : Key) (ar : List (Int × List PEv)) : List PEv :=
 if okX op n s ar.length = false then oddV
 else if isTwo op then brkV (if holdI op = 4 then 5 else holdI op) ((ar.map (·.1)).getD 0 0) ((ar.map (·.2)).getD 0 []) ++ tkn (opWord op) ++ brkV (holdI op + 1) ((ar.map (·.1)).getD 1 0) ((ar.map (·.2)).getD 1 [])
 else if op = 1 then tkn (digK n.toNat)
 else if op = 2 then tkn (if n = 1 then [116, 114, 117, 101] else [102, 97, 108, 115, 101])
 else if op = 3 then nameV s
 else if op = 4 then nameV s ++ upV ++ tkn [91] ++ (ar.map (·.2)).getD 0 [] ++ tkn [93] ++ downV
 else if op = 5 then nameV s ++ argsV (ar.map (·.2))
 else if op = 8 then upV ++ tkn [110, 111, 116] ++ brkV 3 ((ar.map (·.1)).getD 0 0) ((ar.map (·.2)).getD 0 []) ++ downV
 else if op ≤ 23 then tkn (opWord op)
 else tkn (opWord op) ++ argsV (ar.map (·.2))
mutual
def XT.evs : XT → List PEv
 | .mk op n s ar => shX op n s (XT.all ar)
def XT.all : List XT → List (Int × List PEv)
 | [] => []
 | x :: r => (x.op, x.evs) :: XT.all r
end
theorem XT.all_map : ∀ l : List XT, XT.all l = l.map fun x => (x.op, x.evs)
 | [] => rfl
 | x :: r => by rw [XT.all, XT.all_map r]; rfl
def wantsI (k : Int) : Bool × Bool × Int × Int :=
 if k = 1 then (true, true, 1, 0) else if k = 2 then (true, false, 1, 0) else if k = 3 then (true, false, 2, 0) else if k = 4 then (false, false, 1, 2) else if k = 5 then (false, false, 1, 1) else if k = 6 ∨ k = 7 ∨ k = 9 then (false, false, 1, 0) else if k = 8 then (false, false, 2, 0) else if k = 10 then (true, false, 3, 0) else (false, false, -1, 0)
def okS (k : Int) (nm al ca : Key) (ty : Int) (ne nb nl : Nat) : Bool :=
 decide (0 ≤ (wantsI k).2.2.1) && (decide ((ne : Int) = (wantsI k).2.2.1) || decide (k = 10 ∧ (wantsI k).2.2.1 < ne)) && ((wantsI k).1 == !nm.isEmpty) && ((wantsI k).2.1 == decide (ty ≠ 0)) && (decide (k = 10) == !al.isEmpty) && (decide (k = 10) == !ca.isEmpty) && !(decide ((wantsI k).2.2.2 < 1) && decide (0 < nb)) && !(decide ((wantsI k).2.2.2 < 2) && decide (0 < nl))
def blockV (bs : List (List PEv)) : List PEv := upV ++ tkn [123] ++ bs.flatten ++ tkn [125] ++ downV
def shS (k : Int) (nm al ca : Key) (ty : Int) (es : List (List PEv)) (bs ls : List (List PEv)) : List PEv :=
 if okS k nm al ca ty es.length bs.length ls.length = false then oddV
 else if k = 1 then tkn [108, 101, 116] ++ nameV nm ++ tkn [58] ++ kindV ty ++ tkn [61] ++ es.getD 0 [] ++ tkn [59]
 else if k = 2 then nameV nm ++ tkn [61] ++ es.getD 0 [] ++ tkn [59]
 else if k = 3 then nameV nm ++ upV ++ tkn [91] ++ es.getD 0 [] ++ tkn [93] ++ downV ++ tkn [61] ++ es.getD 1 [] ++ tkn [59]
 else if k = 4 then tkn [105, 102] ++ es.getD 0 [] ++ blockV bs ++ (if ls.isEmpty then [] else tkn [101, 108, 115, 101] ++ blockV ls)
 else if k = 5 then tkn [119, 104, 105, 108, 101] ++ es.getD 0 [] ++ blockV bs
 else if k = 6 then tkn [114, 101, 116, 117, 114, 110] ++ es.getD 0 [] ++ tkn [59]
 else if k = 7 then tkn [110, 101, 101, 100] ++ es.getD 0 [] ++ tkn [59]
 else if k = 8 then tkn [112, 97, 121] ++ es.getD 0 [] ++ tkn [44] ++ es.getD 1 [] ++ tkn [59]
 else if k = 9 then tkn [110, 111, 116, 101] ++ es.getD 0 [] ++ tkn [59]
 else tkn [97, 115, 107] ++ nameV nm ++ tkn [44] ++ nameV al ++ tkn [61] ++ es.getD 0 [] ++ tkn [46] ++ nameV ca ++ argsV (es.drop 3) ++ tkn [118, 97, 108, 117, 101] ++ es.getD 1 [] ++ tkn [103, 97, 115] ++ es.getD 2 [] ++ tkn [59]
mutual
def ST.evs : ST → List PEv
 | .mk k nm al ca ty es bs ls => shS k nm al ca ty (es.map XT.evs) (ST.all bs) (ST.all ls)
def ST.all : List ST → List (List PEv)
 | [] => []
 | x :: r => x.evs :: ST.all r
end
theorem ST.all_map : ∀ l : List ST, ST.all l = l.map ST.evs
 | [] => rfl
 | x :: r => by rw [ST.all, ST.all_map r]; rfl
structure FT where
 nm : Key
 op : Bool
 ps : List (Key × Int)
 ty : Int
 bs : List ST
structure CTr where
 nm : Key
 sl : List (Key × Int)
 tb : List (Key × Int × Int)
 fn : List FT
def paramV (p : Key × Int) : List PEv := nameV p.1 ++ tkn [58] ++ kindV p.2
def FT.evs (f : FT) : List PEv := (if f.op then tkn [111, 112, 101, 110] else []) ++ tkn [102, 110] ++ nameV f.nm ++ tkn [40] ++ (if 8 < f.ps.length then farV else []) ++ sepV (f.ps.map paramV) ++ tkn [41] ++ tkn [45, 62] ++ kindV f.ty ++ blockV (ST.all f.bs)
def CTr.evs (c : CTr) : List PEv :=
 tkn [99, 111, 110, 116, 114, 97, 99, 116] ++ nameV c.nm ++ tkn [123] ++ (if 32 < c.sl.length + c.tb.length ∨ 32 < c.fn.length then farV else []) ++
 (c.sl.map fun p => tkn [115, 108, 111, 116] ++ paramV p ++ tkn [59]).flatten ++ (c.tb.map fun t => tkn [109, 97, 112] ++ nameV t.1 ++ tkn [58] ++ kindV t.2.1 ++ tkn [45, 62] ++ kindV t.2.2 ++ tkn [59]).flatten ++ (c.fn.map FT.evs).flatten ++ tkn [125]
def sayK (t s : Key) : Key := (if t = [] then [] else t ++ [32]) ++ s
structure PS where
 tx : Key
 lv : Int
 mx : Int
 fr : Bool
 od : Bool
def PS.step (p : PS) : PEv → PS
 | .tok s => { p with tx := sayK p.tx s }
 | .up => { p with lv := p.lv + 1, mx := max p.mx (p.lv + 1) }
 | .down => { p with lv := p.lv - 1 }
 | .far => { p with fr := true }
 | .odd => { p with od := true }
def PS.run (p : PS) (l : List PEv) : PS := l.foldl PS.step p
def PS.zero : PS := ⟨[], 0, 0, false, false⟩
theorem PS.run_app (p : PS) (l m : List PEv) : p.run (l ++ m) = (p.run l).run m := List.foldl_append ..
theorem PS.run_nil (p : PS) : p.run [] = p := rfl
theorem PS.run_cons (p : PS) (e : PEv) (l : List PEv) : p.run (e :: l) = (p.step e).run l := rfl
def endP (p : PS) : Key × Int := if p.od then ([], 2) else if p.fr || decide (2048 < p.tx.length) then ([], 3) else if 32 < p.mx then ([], 7) else (p.tx, 0)
theorem Gl.but {w w' : World} {b : Nat} (h : Gl w) (hb : But (fun k => k = b) w w') (h5 : 9 ≤ b) : Gl w' :=
 ⟨Nat.le_trans h.sz hb.size, fun g hg j v hv => by
  rw [hb.cell (p := ⟨g, 0 + j, none⟩) (Nat.lt_of_lt_of_le (by show g < 9; omega) h.sz) (by show ¬ g = b; omega)]; exact h.tab g hg j v hv⟩
def rcells (r : Key) (t : Tok) (lv e : Int) : Array Value := #[.string (str r), .int .i64 t.class, .string (str t.text), .int .i64 t.n, .int .i64 lv, .int .i64 e]
def RBox (w : World) (b : Nat) : ES → Prop
 | .ok σ => Blk w b (rcells σ.rest σ.now σ.lv 0) 38 ∧ Sound σ
 | .error e => e ≠ 0 ∧ ∃ r lv, Blk w b (rcells r .none lv e) 38
structure RAt (w : World) (b : Nat) (S : ES) : Prop where
 gl : Gl w
 b5 : 9 ≤ b
 box : RBox w b S
theorem RBox.lt {w : World} {b : Nat} : ∀ {S : ES}, RBox w b S → b < w.heap.size
 | .ok σ, h => h.1.lt
 | .error e, ⟨_, r, lv, h⟩ => h.lt
theorem RAt.lt {w : World} {b : Nat} {S : ES} (h : RAt w b S) : b < w.heap.size := h.box.lt
theorem RBox.below {w w' : World} {b : Nat} (hb : Below w.heap.size w w') : ∀ {S : ES}, RBox w b S → RBox w' b S
 | .ok σ, h => ⟨h.1.below hb h.1.lt, h.2⟩
 | .error e, ⟨h, r, lv, k⟩ => ⟨h, r, lv, k.below hb k.lt⟩
theorem RAt.below {w w' : World} {b : Nat} {S : ES} (h : RAt w b S) (hb : Below w.heap.size w w') : RAt w' b S := ⟨h.gl.below hb, h.b5, h.box.below hb⟩
theorem Blk.six {w : World} {b : Nat} {x y z u v s : Value} {t : TypeId} (k : Blk w b #[x, y, z, u, v, s] t) : b < w.heap.size ∧ (w.cell? ⟨b, 0, none⟩ = some x ∧ w.cell? ⟨b, 1, none⟩ = some y ∧ w.cell? ⟨b, 2, none⟩ = some z ∧ w.cell? ⟨b, 3, none⟩ = some u ∧ w.cell? ⟨b, 4, none⟩ = some v ∧ w.cell? ⟨b, 5, none⟩ = some s) ∧ w.frozen? ⟨b, 0, none⟩ = false ∧ w.frozen? ⟨b, 1, none⟩ = false ∧ w.frozen? ⟨b, 2, none⟩ = false ∧ w.frozen? ⟨b, 3, none⟩ = false ∧ w.frozen? ⟨b, 4, none⟩ = false ∧ w.frozen? ⟨b, 5, none⟩ = false :=
 ⟨k.lt, ⟨(k.cell 0).trans rfl, (k.cell 1).trans rfl, (k.cell 2).trans rfl, (k.cell 3).trans rfl, (k.cell 4).trans rfl, (k.cell 5).trans rfl⟩, k.frozen 0, k.frozen 1, k.frozen 2, k.frozen 3, k.frozen 4, k.frozen 5⟩
def CtU (f : FuncId) (vs : List Value) (F : PM Unit) : Prop := ∀ b S w, RAt w b S → Calls Tryz.prog f (.pointer (some ⟨b, 0, none⟩) :: vs).toArray w fun e w' => e = .returned (.tuple #[]) ∧ But (fun k => k = b) w w' ∧ ∃ S', RAt w' b S' ∧ Rel F S () S'
def CtV {α : Type} (f : FuncId) (vs : List Value) (enc : α → Value) (F : PM α) : Prop := ∀ b S w, RAt w b S → Calls Tryz.prog f (.pointer (some ⟨b, 0, none⟩) :: vs).toArray w fun e w' => ∃ x, e = .returned (enc x) ∧ But (fun k => k = b) w w' ∧ ∃ S', RAt w' b S' ∧ Rel F S x S'
theorem bset {w u : World} {b i : Nat} {v : Value} (h : But (fun k => k = b) w u) : But (fun k => k = b) w (u.setCell ⟨b, i, none⟩ v) := h.trans (But.set (S := fun k => k = b) u (p := ⟨b, i, none⟩) rfl v)
theorem ret_unit {fn : Func} {R : Ending → World → Prop} {A : Act} {w : World} (hres : fn.results = #[]) (hd : A.defers = []) (h : R (.returned (.tuple #[])) w) : bodyPost Tryz.prog fn R .ret A w := bodyPost_ret (v := .tuple #[]) (by simp [results, hres]) hd h
theorem rat {w w' : World} {b : Nat} {S : ES} (g : Gl w) (h5 : 9 ≤ b) (hb : But (fun k => k = b) w w') (x : RBox w' b S) : RAt w' b S := ⟨g.but hb h5, h5, x⟩
theorem fail_u (er : Int) (he : er ≠ 0) : CtU 9 [.int .i64 er] (failT er) := by
 intro b S w h;obtain ⟨g, h5, hx⟩ := h;have B0 := But.refl (fun k => k = b) w
 cases S with
 | ok σ =>
  obtain ⟨k, hr⟩ := hx;unfold rcells at k;obtain ⟨zb, ⟨c0, c1, c2, c3, c4, c5⟩, f0, f1, f2, f3, f4, f5⟩ := k.six;have HN : Hid (er ≠ 0) := he;clear he
  go_enter Tryz.func9, Tryz.ntmps9
  go_wp2
  go_end0
  exact ⟨rfl, bset (bset (bset (bset B0))), .error er, rat g h5 (bset (bset (bset (bset B0)))) ⟨HN.out, σ.rest, σ.lv, (((k.set 5 _).set 1 _).set 2 _).set 3 _⟩, rfl⟩
 | error e0 =>
  obtain ⟨h0, r, lv, k⟩ := hx;unfold rcells at k;obtain ⟨zb, ⟨c0, c1, c2, c3, c4, c5⟩, f0, f1, f2, f3, f4, f5⟩ := k.six;have hne : (e0 == 0) = false := by simpa using h0
  go_enter Tryz.func9, Tryz.ntmps9
  go_wp2
  go_end0
  exact ⟨rfl, bset (bset (bset B0)), .error e0, rat g h5 (bset (bset (bset B0))) ⟨h0, r, lv, ((k.set 1 _).set 2 _).set 3 _⟩, rfl⟩
theorem wrong_u : CtU 17 [] wrongT := by
 intro b S w h;have K := fun (er : Int) (he : er ≠ 0) => fail_u er he b S;obtain ⟨g, h5, hx⟩ := h
 cases S with
 | ok σ =>
  have R : RAt w b (.ok σ) := ⟨g, h5, hx⟩;obtain ⟨k, hr⟩ := hx;unfold rcells at k;obtain ⟨zb, ⟨c0, c1, c2, c3, c4, c5⟩, f0, f1, f2, f3, f4, f5⟩ := k.six
  by_cases hf : σ.now = .fin
  ·have hc : σ.now.class = 1 := by rw [hf]; rfl
   have HE : Hid (errT σ = 1) := by show _ = _; simp [errT, hf]
   rw [hc] at c1
   go_enter Tryz.func17, Tryz.ntmps17
   go_wp2_with fail
   refine (K 1 (by omega) w R).mono ?_;rintro e w1 ⟨rfl, B1, S1, R1, h1⟩
   go_wp2
   exact ret_unit Tryz.results17 rfl ⟨rfl, B1, S1, R1, by show S1 = .error (errT σ); rw [HE.out]; exact h1⟩
  ·have hc : (σ.now.class == 1) = false := by cases h : σ.now <;> simp_all [Tok.class]
   have HE : Hid (errT σ = 6) := by show _ = _; simp [errT, hf]
   go_enter Tryz.func17, Tryz.ntmps17
   go_wp2_with fail
   refine (K 6 (by omega) w R).mono ?_;rintro e w1 ⟨rfl, B1, S1, R1, h1⟩
   go_wp2
   go_end0
   exact ⟨rfl, B1, S1, R1, by show S1 = .error (errT σ); rw [HE.out]; exact h1⟩
 | error e0 =>
  have R : RAt w b (.error e0) := ⟨g, h5, hx⟩;obtain ⟨h0, r, lv, k⟩ := hx;unfold rcells at k;obtain ⟨zb, ⟨c0, c1, c2, c3, c4, c5⟩, f0, f1, f2, f3, f4, f5⟩ := k.six;have c1' : w.cell? ⟨b, 1, none⟩ = some (.int .i64 0) := c1;clear c1
  go_enter Tryz.func17, Tryz.ntmps17
  go_wp2_with fail
  refine (K 6 (by omega) w R).mono ?_;rintro e w1 ⟨rfl, B1, S1, R1, h1⟩
  go_wp2
  go_end0
  exact ⟨rfl, B1, S1, R1, h1⟩
theorem next_u : CtU 7 [] nextT := by
 intro b S w h;obtain ⟨g, h5, hx⟩ := h
 cases S with
 | ok σ =>
  obtain ⟨k, hr⟩ := hx;unfold rcells at k;obtain ⟨zb, ⟨c0, c1, c2, c3, c4, c5⟩, f0, f1, f2, f3, f4, f5⟩ := k.six;have K1 := fun w' => gap_any σ.rest w' hr.1;have hgl : (gap false σ.rest).length ≤ 2048 := Nat.le_trans (gap_len _ _) hr.1;obtain ⟨s1, Hs1⟩ : ∃ s1, Hid (s1 = gap false σ.rest) := ⟨_, rfl⟩;rw [← Hs1.out] at K1 hgl
  go_enter Tryz.func7, Tryz.ntmps7
  go_wp2_with fail
  refine (K1 _).mono ?_;rintro e w1 ⟨rfl, b1⟩;have g1 := g.below b1;have k1 := k.below b1 k.lt
  go_wp2_with fail
  refine (cut_any s1 w1 hgl g1).mono ?_;rintro e w2 ⟨he, b2⟩;have he : e = .returned (.tuple #[.agg #[.int .i64 (cutT s1).1.class, .string (str (cutT s1).1.text), .int .i64 (cutT s1).1.n], .string (str (cutT s1).2)]) := he;subst he;have hcl : (cutT s1).2.length ≤ 2048 := Nat.le_trans (cutT_len s1) hgl;have Hok : Hid ((cutT s1).1.ok) := cutT_ok s1
  have HN : Hid (∀ τ, nextT σ = τ ↔ (match cutT s1 with | (.none, _) => .error 6 | (t, r) => .ok ((), { σ with now := t, rest := r })) = τ) := by
   intro τ; rw [Hs1.out]; rfl
  clear Hs1
  generalize cutT s1 = p at *
  obtain ⟨t, r⟩ := p;simp only at hcl;have k2 := k1.below b2 k1.lt;have B2 : But (fun k => k = b) w w2 := But.of_below (b1.trans (b2.mono b1.size));clear c0 c1 c2 c3 c4 c5 f0 f1 f2 f3 f4 f5 zb;obtain ⟨zb, ⟨c0, c1, c2, c3, c4, c5⟩, f0, f1, f2, f3, f4, f5⟩ := k2.six
  by_cases ht : t = .none
  ·subst ht;have HN' : Hid (nextT σ = .error 6) := (HN.out _).2 rfl;clear HN
   go_wp2_with fail
   have B3 := bset (i := 0) (v := .string (str r)) (bset (i := 3) (v := .int .i64 Tok.none.n) (bset (i := 2) (v := .string (str Tok.none.text)) (bset (i := 1) (v := .int .i64 Tok.none.class) B2)));have R3 : RAt _ b (.ok { rest := r, now := .none, lv := σ.lv }) := rat g h5 B3 ⟨(((k2.set 1 _).set 2 _).set 3 _).set 0 _, hcl, Hok.out⟩;refine (wrong_u b _ _ R3).mono ?_;rintro e w3 ⟨rfl, B4, S4, R4, h4⟩
   go_wp2
   go_end0
   have h4 := h4.get_err (e := 6) rfl;subst h4;exact ⟨rfl, B3.trans B4, _, R4, Rel.of_err HN'.out⟩
  ·have htc : (t.class == 0) = false := by cases t <;> simp_all [Tok.class]
   have HN' : Hid (nextT σ = .ok ((), { σ with now := t, rest := r })) := (HN.out _).2 (by cases t <;> first | exact absurd rfl ht | rfl);clear HN
   go_wp2
   have B3 := bset (i := 0) (v := .string (str r)) (bset (i := 3) (v := .int .i64 t.n) (bset (i := 2) (v := .string (str t.text)) (bset (i := 1) (v := .int .i64 t.class) B2)))
   go_end0
   exact ⟨rfl, B3, .ok { σ with now := t, rest := r }, rat g h5 B3 ⟨(((k2.set 1 _).set 2 _).set 3 _).set 0 _, hcl, Hok.out⟩, Rel.of_ok HN'.out⟩
 | error e0 =>
  obtain ⟨h0, r, lv, k⟩ := hx;have R : RBox w b (.error e0) := ⟨h0, r, lv, k⟩;unfold rcells at k;obtain ⟨zb, ⟨c0, c1, c2, c3, c4, c5⟩, f0, f1, f2, f3, f4, f5⟩ := k.six;have hne : (e0 == 0) = false := by simpa using h0
  go_enter Tryz.func7, Tryz.ntmps7
  go_wp2
  exact ret_unit Tryz.results7 rfl ⟨rfl, But.refl _ _, .error e0, ⟨g, h5, R⟩, rfl⟩
end Go.Proofs.YtpofgnlkhkednaaGreatDoor
