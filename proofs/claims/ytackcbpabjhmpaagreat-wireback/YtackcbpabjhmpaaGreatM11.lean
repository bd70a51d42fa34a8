import Derived.Test.YtackcbpabjhmpaaGreatM10
import Derived.BigQuiet
namespace Go.Proofs.YtackcbpabjhmpaaGreat
open Go.RowKit
set_option linter.unusedVariables false
set_option linter.unusedSimpArgs false
theorem zero_at {cs : Array Value} {scs : List Sc} (h : cs.toList = scs.map Sc.zero) : ZeroAt cs 0 scs := fun j c hj => by
 rw [Nat.zero_add, ← Array.getElem?_toList, h, List.getElem?_map, hj]; rfl
theorem readWhole_fits {scs : List Sc} {s : List UInt8} {fs : List Fld} (h : readWhole scs s = .ok (pvAll fs)) : fitsAll scs fs := by
 unfold readWhole at h
 cases hr : readAll scs s with
 | error e => rw [hr] at h; cases h
 | ok p =>
  obtain ⟨vs, r⟩ := p
  rw [hr] at h
  simp only at h
  split at h
  ·injection h with h
   subst h
   exact readAll_fits scs s fs r hr
  ·cases h
theorem putAt_all {vs : List Value} {cs : Array Value} (h : vs.length = cs.size) : putAt cs 0 vs = vs.toArray := by
 apply Array.ext_getElem?
 intro i
 by_cases hi : i < vs.length
 ·have := putAt_in vs cs 0 i (by omega) hi
  rw [Nat.zero_add] at this
  rw [this]
  simp
 ·rw [Array.getElem?_eq_none (by rw [putAt_size]; omega), Array.getElem?_eq_none (by simp; omega)]
def GetsE {X : Type} (wrap : Array Value → Value) (scs : List Sc) (flds : X → List Fld) (may : X → Bool) (s : List UInt8) (z : Array Value) (w : World) (e : Ending) (w' : World) : Prop :=
 Below w.heap.size w w' ∧ ((∃ er, readWhole scs s = .error er ∧ er ≠ 0 ∧ e = .returned (.tuple #[wrap z, .int .i64 er])) ∨
  (∃ x : X, readWhole scs s = .ok (pvAll (flds x)) ∧ fitsAll scs (flds x) ∧ lieAll w.heap.size w' (flds x) ∧ ((may x = false ∧ e = .returned (.tuple #[wrap z, .int .i64 2])) ∨ (may x = true ∧ e = .returned (.tuple #[wrap ((flds x).map Fld.val).toArray, .int .i64 0])))))
structure Acc where
 (ba fo no bo le fr : Int)
 ja : Bool
structure Par where
 (k t a : Int)
structure Vw where
 (c wi ep h st : Int)
 se : Lst (Int × Int)
def Acc.flds (x : Acc) : List Fld := [.i x.ba, .i x.fo, .i x.no, .i x.bo, .i x.le, .i x.fr, .b x.ja]
def Par.flds (x : Par) : List Fld := [.i x.k, .i x.t, .i x.a]
def Vw.flds (x : Vw) : List Fld := [.i x.c, .i x.wi, .i x.ep, .i x.h, .d x.st, x.se.fld pairF]
def Acc.any (_ : Acc) : Bool := true
def Header.any (_ : Header) : Bool := true
def Par.may (x : Par) : Bool := mayParcelP x.k x.t
def Vw.may (x : Vw) : Bool := mayViewP x.wi x.ep x.se.xs
theorem nums_of : ∀ (n : Nat) (e : List Fld), fitsAll (List.replicate n numC) e → ∃ l : List Int, l.length = n ∧ e = l.map Fld.i
 | 0, e, h => ⟨[], rfl, fits_nil h⟩
 | n + 1, e, h => by
  obtain ⟨f, gs, rfl, h1, h2⟩ := fits_cons (cs := List.replicate n numC) h
  obtain ⟨m, rfl⟩ := fits_num h1
  obtain ⟨l, hl, rfl⟩ := nums_of n gs h2
  exact ⟨m :: l, by simp [hl], rfl⟩
theorem Acc.of (e : List Fld) (h : fitsAll accSc e) : ∃ x : Acc, x.flds = e := by
 obtain ⟨p, q, rfl, a, b⟩ := fitsAll_split (a := List.replicate 6 numC) (b := [Sc.flag]) h
 obtain ⟨l, hl, rfl⟩ := nums_of 6 p a
 obtain ⟨f, gs, rfl, h1, h2⟩ := fits_cons b
 obtain ⟨j, rfl⟩ := fits_flag h1
 rw [fits_nil h2]
 match l, hl with
 | [a, b, c, d, e, f], _ => exact ⟨⟨a, b, c, d, e, f, j⟩, rfl⟩
theorem Par.of (e : List Fld) (h : fitsAll parSc e) : ∃ x : Par, x.flds = e := by
 obtain ⟨l, hl, rfl⟩ := nums_of 3 e h
 match l, hl with
 | [a, b, c], _ => exact ⟨⟨a, b, c⟩, rfl⟩
theorem Vw.of (e : List Fld) (h : fitsAll viewSc e) : ∃ x : Vw, x.flds = e := by
 obtain ⟨p, q, rfl, a, b⟩ := fitsAll_split (a := List.replicate 4 numC) (b := [Sc.dig] ++ [Sc.list 7 pairSc]) h
 obtain ⟨l, hl, rfl⟩ := nums_of 4 p a
 obtain ⟨f, gs, rfl, h1, h2⟩ := fits_cons b
 obtain ⟨j, rfl⟩ := fits_dig h1
 obtain ⟨f, gs, rfl, h3, h4⟩ := fits_cons h2
 obtain ⟨la, lc, es, rfl, m⟩ := fits_list h3
 rw [fits_nil h4]
 rw [Sc.fits] at h3
 obtain ⟨xs, rfl⟩ := lst_of (flds := pairF) pair_of es h3.2
 match l, hl with
 | [a, b, c, d], _ => exact ⟨⟨a, b, c, d, j, ⟨la, lc, xs⟩⟩, rfl⟩
theorem Vw.seats {x : Vw} (h : fitsAll viewSc x.flds) : x.se.xs.length ≤ 140737488351232 := by
 have := (lst_fits (flds := pairF) (els := pairSc) (m := 7) (l := x.se) (get_fits h 5 rfl rfl)).1
 omega
theorem anyAccount_anyX (x : Acc) (w : World) : Calls Tryz.prog 193 #[.agg #[.int .i64 x.ba, .int .i64 x.fo, .int .i64 x.no, .int .i64 x.bo, .int .i64 x.le, .int .i64 x.fr, .bool x.ja]] w fun e w' => e = .returned (.bool x.any) ∧ Below w.heap.size w w' :=
 anyAccount_any _ _ _ _ _ _ _ w
theorem mayParcel_anyX (x : Par) (w : World) : Calls Tryz.prog 199 #[.agg #[.int .i64 x.k, .int .i64 x.t, .int .i64 x.a]] w fun e w' => e = .returned (.bool x.may) ∧ Below w.heap.size w w' :=
 mayParcel_any _ _ _ w
theorem mayView_anyX (x : Vw) (w : World) (g : goods w.heap.size w x.flds) (hn : x.se.xs.length ≤ 140737488351232) : Calls Tryz.prog 204 #[.agg #[.int .i64 x.c, .int .i64 x.wi, .int .i64 x.ep, .int .i64 x.h, .int .u64 x.st, .slice x.se.la x.se.xs.length x.se.lc]] w fun e w' => e = .returned (.bool x.may) ∧ Below w.heap.size w w' :=
 mayView_any x.c x.wi x.ep x.h x.st x.se.la x.se.lc x.se.xs w hn (pairs_held (Lst.held pairF_len (g.get 5 rfl)))
theorem Vote.vals (x : Vote) : (#[.int .i64 x.h, .int .i64 x.r, .int .i64 x.s, .bool x.has, .int .u64 x.bl, .int .i64 x.f] : Array Value) = ((Vote.flds x).map Fld.val).toArray := by
 simp [Vote.flds, Guilt.flds, Cert.flds, Header.flds, Turn.flds, Proof.flds, Sight.flds, Tx.flds, Block.flds, Motion.flds, Known.flds, Message.flds, Acc.flds, Par.flds, Vw.flds, Fld.val, Lst.fld]
theorem Cert.vals (x : Cert) : (#[.int .i64 x.h, .int .i64 x.r, .int .i64 x.s, .bool x.has, .int .u64 x.bl, .slice x.fr.la x.fr.xs.length x.fr.lc] : Array Value) = ((Cert.flds x).map Fld.val).toArray := by
 simp [Vote.flds, Guilt.flds, Cert.flds, Header.flds, Turn.flds, Proof.flds, Sight.flds, Tx.flds, Block.flds, Motion.flds, Known.flds, Message.flds, Acc.flds, Par.flds, Vw.flds, Fld.val, Lst.fld]
theorem Header.vals (x : Header) : (#[.int .i64 x.c, .int .i64 x.h, .int .u64 x.pa, .int .u64 x.tx, .int .u64 x.gu, .int .u64 x.st, .int .u64 x.re, .int .u64 x.be, .int .i64 x.pr] : Array Value) = ((Header.flds x).map Fld.val).toArray := by
 simp [Vote.flds, Guilt.flds, Cert.flds, Header.flds, Turn.flds, Proof.flds, Sight.flds, Tx.flds, Block.flds, Motion.flds, Known.flds, Message.flds, Acc.flds, Par.flds, Vw.flds, Fld.val, Lst.fld]
theorem Guilt.vals (x : Guilt) : (#[.int .i64 x.a.h, .int .i64 x.a.r, .int .i64 x.a.s, .bool x.a.has, .int .u64 x.a.bl, .int .i64 x.a.f, .int .i64 x.c.h, .int .i64 x.c.r, .int .i64 x.c.s, .bool x.c.has, .int .u64 x.c.bl, .int .i64 x.c.f] : Array Value) = ((Guilt.flds x).map Fld.val).toArray := by
 simp [Vote.flds, Guilt.flds, Cert.flds, Header.flds, Turn.flds, Proof.flds, Sight.flds, Tx.flds, Block.flds, Motion.flds, Known.flds, Message.flds, Acc.flds, Par.flds, Vw.flds, Fld.val, Lst.fld]
theorem Proof.vals (x : Proof) : (#[.slice x.tu.la x.tu.xs.length x.tu.lc, .bool x.leaf, .string ⟨x.key.toArray⟩, .string ⟨x.val.toArray⟩] : Array Value) = ((Proof.flds x).map Fld.val).toArray := by
 simp [Vote.flds, Guilt.flds, Cert.flds, Header.flds, Turn.flds, Proof.flds, Sight.flds, Tx.flds, Block.flds, Motion.flds, Known.flds, Message.flds, Acc.flds, Par.flds, Vw.flds, Fld.val, Lst.fld]
theorem Tx.vals (x : Tx) : (#[.int .i64 x.k, .int .i64 x.f, .int .i64 x.n, .int .i64 x.p, .int .i64 x.li, .int .i64 x.to, .int .i64 x.am, .string ⟨x.te.toArray⟩, .slice x.ar.la x.ar.xs.length x.ar.lc, .slice x.si.la x.si.xs.length x.si.lc, .slice x.pr.la x.pr.xs.length x.pr.lc] : Array Value) = ((Tx.flds x).map Fld.val).toArray := by
 simp [Vote.flds, Guilt.flds, Cert.flds, Header.flds, Turn.flds, Proof.flds, Sight.flds, Tx.flds, Block.flds, Motion.flds, Known.flds, Message.flds, Acc.flds, Par.flds, Vw.flds, Fld.val, Lst.fld]
theorem Block.vals (x : Block) : (#[.int .i64 x.hd.c, .int .i64 x.hd.h, .int .u64 x.hd.pa, .int .u64 x.hd.tx, .int .u64 x.hd.gu, .int .u64 x.hd.st, .int .u64 x.hd.re, .int .u64 x.hd.be, .int .i64 x.hd.pr, .slice x.tx.la x.tx.xs.length x.tx.lc, .slice x.gu.la x.gu.xs.length x.gu.lc] : Array Value) = ((Block.flds x).map Fld.val).toArray := by
 simp [Vote.flds, Guilt.flds, Cert.flds, Header.flds, Turn.flds, Proof.flds, Sight.flds, Tx.flds, Block.flds, Motion.flds, Known.flds, Message.flds, Acc.flds, Par.flds, Vw.flds, Fld.val, Lst.fld]
theorem Message.vals (x : Message) : (#[.int .i64 x.fr, .int .i64 x.to, .int .i64 x.h, .slice x.vo.la x.vo.xs.length x.vo.lc, .slice x.mo.la x.mo.xs.length x.mo.lc, .slice x.kn.la x.kn.xs.length x.kn.lc, .slice x.tx.la x.tx.xs.length x.tx.lc] : Array Value) = ((Message.flds x).map Fld.val).toArray := by
 simp [Vote.flds, Guilt.flds, Cert.flds, Header.flds, Turn.flds, Proof.flds, Sight.flds, Tx.flds, Block.flds, Motion.flds, Known.flds, Message.flds, Acc.flds, Par.flds, Vw.flds, Fld.val, Lst.fld]
theorem Acc.vals (x : Acc) : (#[.int .i64 x.ba, .int .i64 x.fo, .int .i64 x.no, .int .i64 x.bo, .int .i64 x.le, .int .i64 x.fr, .bool x.ja] : Array Value) = ((Acc.flds x).map Fld.val).toArray := by
 simp [Vote.flds, Guilt.flds, Cert.flds, Header.flds, Turn.flds, Proof.flds, Sight.flds, Tx.flds, Block.flds, Motion.flds, Known.flds, Message.flds, Acc.flds, Par.flds, Vw.flds, Fld.val, Lst.fld]
theorem Par.vals (x : Par) : (#[.int .i64 x.k, .int .i64 x.t, .int .i64 x.a] : Array Value) = ((Par.flds x).map Fld.val).toArray := by
 simp [Vote.flds, Guilt.flds, Cert.flds, Header.flds, Turn.flds, Proof.flds, Sight.flds, Tx.flds, Block.flds, Motion.flds, Known.flds, Message.flds, Acc.flds, Par.flds, Vw.flds, Fld.val, Lst.fld]
theorem Vw.vals (x : Vw) : (#[.int .i64 x.c, .int .i64 x.wi, .int .i64 x.ep, .int .i64 x.h, .int .u64 x.st, .slice x.se.la x.se.xs.length x.se.lc] : Array Value) = ((Vw.flds x).map Fld.val).toArray := by
 simp [Vote.flds, Guilt.flds, Cert.flds, Header.flds, Turn.flds, Proof.flds, Sight.flds, Tx.flds, Block.flds, Motion.flds, Known.flds, Message.flds, Acc.flds, Par.flds, Vw.flds, Fld.val, Lst.fld]
theorem ZeroAt.drop {cs : Array Value} {o : Nat} {a b : List Sc} (h : ZeroAt cs o (a ++ b)) : ZeroAt cs (o + a.length) b := fun j c hj => by
 have := h (a.length + j) c (by rw [List.getElem?_append_right (by omega), show a.length + j - a.length = j by omega]; exact hj)
 rw [Nat.add_assoc]
 exact this
def recSc (k : Int) : List Sc := if k = 1 then Vote.sc else if k = 2 then Motion.sc else if k = 3 then Known.sc else if k = 4 then Known.sc else []
def recOff (k : Int) : Nat := if k = 1 then 1 else if k = 2 then 7 else if k = 3 then 21 else if k = 4 then 21 else 0
def readRec (s : List UInt8) : Except Int ((Int × List Pv) × List UInt8) :=
 match numP 1099511627775 s with
 | .error e => .error e
 | .ok (k, r) =>
  match readAll (recSc k) r with
  | .error e => .error e
  | .ok (vs, q) => .ok ((k, vs), q)
def RecE (b xb : Nat) (cs : Array Value) (t : TypeId) (s : List UInt8) (w : World) (e : Ending) (w' : World) : Prop :=
 But (fun k => k = b ∨ k = xb) w w' ∧ ((∃ er, readRec s = .error er ∧ e = refusedE er) ∨
  ∃ k fs r, readRec s = .ok ((k, pvAll fs), r) ∧ fitsAll (recSc k) fs ∧ e = .returned (.tuple #[]) ∧ RdAt w' b r ∧ Blk w' xb (putAt (putAt cs 0 [.int .i64 k]) (recOff k) (fs.map Fld.val)) t ∧ lieAll w.heap.size w' fs)
abbrev recZ : List Sc := [numC] ++ (Vote.sc ++ (Motion.sc ++ Known.sc))
theorem rec_of_part {b xb : Nat} {cs : Array Value} {t : TypeId} {s r : List UInt8} {k : Int} {w w1 w' : World} {e : Ending} (B : But (fun k => k = b ∨ k = xb) w w1) (hz : b < w.heap.size) (hx : xb < w.heap.size) (hk : numP 1099511627775 s = .ok (k, r))
  (h : RdE b xb (recOff k) (putAt cs 0 [.int .i64 k]) t (recSc k) r w1 e w') : RecE b xb cs t s w e w' := by
 obtain ⟨hb, hE⟩ := h
 refine ⟨B.trans hb, ?_⟩
 rcases hE with ⟨er, h1, h2⟩ | ⟨fs, q, h1, h2, h3, h4, h5⟩
 ·exact .inl ⟨er, by unfold readRec; rw [hk]; simp only; rw [h1], h2⟩
 ·exact .inr ⟨k, fs, q, by unfold readRec; rw [hk]; simp only; rw [h1], readAll_fits _ _ _ _ h1, h2, h3, h4, h5.mono B.size⟩
theorem drewN_below {B : Nat} {a w : World} (h : Below B a w) (n : Nat) : Below B a (w.drewN n) := h.trans ⟨rfl, rfl, rfl, Nat.le_refl _, fun _ _ => rfl⟩
def Gt (w : World) (gb : Nat) (B : List UInt8) (a : Nat) (E : Int) : Prop := Blk w gb #[.string ⟨B.toArray⟩, .int .i64 a, .int .i64 E] 81
theorem Gt.below {w w' : World} {gb : Nat} {B : List UInt8} {a : Nat} {E : Int} (h : Gt w gb B a E) (hb : Below w.heap.size w w') : Gt w' gb B a E := Blk.below h hb (Blk.lt h)
theorem mid_ext (l : List UInt8) (a n : Nat) : (⟨l.toArray⟩ : ByteArray).extract a (a + n) = ⟨((l.drop a).take n).toArray⟩ := by
 apply ByteArray.ext
 rw [ByteArray.data_extract]
 apply Array.ext'
 simp only [Array.toList_extract, List.toList_toArray, List.extract_eq_take_drop]
 rw [Nat.add_sub_cancel_left]
theorem wrapJ (n : Int) (h1 : -9223372036854775808 ≤ n) (h2 : n ≤ 9223372036854775807) : IntKind.i64.wrap n = n := by
 simp [IntKind.wrap, IntKind.min, IntKind.max, IntKind.signed, IntKind.bits]
 omega
def Pg {α : Type} (B : List UInt8) (z : α) (x : Rs α) (E : Int) (v : α) (a' : Nat) (E' : Int) : Prop :=
 a' ≤ B.length ∧ ((E ≠ 0 ∧ E' = E ∧ v = z) ∨ (E = 0 ∧ ((∃ er, x = .error er ∧ E' = er ∧ v = z) ∨ (∃ r, x = .ok (v, r) ∧ E' = 0 ∧ B.drop a' = r))))
def GotG (gb : Nat) (B : List UInt8) {α : Type} (z : α) (x : Rs α) (mk : α → Value) (E : Int) (w : World) (e : Ending) (w' : World) : Prop :=
 ∃ v a' E', e = .returned (mk v) ∧ Gt w' gb B a' E' ∧ But (fun k => k = gb) w w' ∧ Pg B z x E v a' E'
def takeP (n : Nat) (s : List UInt8) : Rs (List UInt8) := if s.length < n then .error 1 else .ok (s.take n, s.drop n)
set_option maxHeartbeats 800000 in
theorem gbad_any (gb : Nat) (B : List UInt8) (a : Nat) (E e0 : Int) (w : World) (k : Gt w gb B a E) :
  Calls Tryz.prog 219 #[.pointer (some ⟨gb, 0, none⟩), .int .i64 e0] w fun e w' => e = .returned (.tuple #[]) ∧ Gt w' gb B a (if E = 0 then e0 else E) ∧ But (fun k => k = gb) w w' := by
 have k' : Blk w gb #[.string ⟨B.toArray⟩, .int .i64 a, .int .i64 E] 81 := k
 have c2 := (k'.cell 2).trans rfl
 have f2 := k'.frozen 2
 have zb := k'.lt
 by_cases h0 : E = 0
 ·subst h0
  have k2 := k'.set 2 (.int .i64 e0)
  have B2 := but_set w gb 2 (.int .i64 e0)
  go_enter Tryz.func219, Tryz.ntmps219
  go_wp2
  go_end0
  exact ⟨rfl, k2, B2⟩
 ·have hb : (E == 0) = false := by simpa using h0
  have HE : Hid (¬ E = 0) := h0
  clear h0
  go_enter Tryz.func219, Tryz.ntmps219
  go_wp2
  go_end0
  exact ⟨rfl, k, But.refl _ _⟩
set_option maxHeartbeats 1600000 in
theorem gtake_any (gb : Nat) (B : List UInt8) (a n : Nat) (E : Int) (w : World) (k : Gt w gb B a E) (ha : a ≤ B.length) (hn : n ≤ 1000000) (hL : B.length ≤ 1099511627000) :
  Calls Tryz.prog 218 #[.pointer (some ⟨gb, 0, none⟩), .int .i64 n] w fun e w' => GotG gb B [] (takeP n (B.drop a)) (fun t => .string ⟨t.toArray⟩) E w e w' := by
 have k' : Blk w gb #[.string ⟨B.toArray⟩, .int .i64 a, .int .i64 E] 81 := k
 have c0 := (k'.cell 0).trans rfl
 have c1 := (k'.cell 1).trans rfl
 have c2 := (k'.cell 2).trans rfl
 have zb := k'.lt
 have sz := str_size' B
 have w1 := wrapJ ((B.length : Int) - (a : Int)) (by omega) (by omega)
 have w2 := wrapJ ((a : Int) + (n : Int)) (by omega) (by omega)
 have hdl : (B.drop a).length = B.length - a := List.length_drop
 by_cases h0 : E = 0
 ·subst h0
  by_cases hs : B.length - a < n
  ·have hng : (B.length : Int) - (a : Int) < (n : Int) := by omega
   have HP : Hid (Pg B [] (takeP n (B.drop a)) 0 [] a 1) := ⟨ha, .inr ⟨rfl, .inl ⟨1, by unfold takeP; rw [if_pos (by omega)], rfl, rfl⟩⟩⟩
   clear hdl hs
   go_enter Tryz.func218, Tryz.ntmps218
   go_wp2_with fail
   go_quiet (fail)
   have bq := drewN_below (Below.refl w.heap.size w) nq
   have k1 : Gt (w.drewN nq) gb B a 0 := Gt.below k bq
   generalize w.drewN nq = wa at *
   clear c0 c1 c2
   go_wp2_with fail
   refine (gbad_any gb B a 0 1 wa k1).mono ?_
   rintro e w3 ⟨rfl, k3, B3⟩
   rw [if_pos rfl] at k3
   have k3' : Blk w3 gb #[.string ⟨B.toArray⟩, .int .i64 a, .int .i64 1] 81 := k3
   have c2 := (k3'.cell 2).trans rfl
   have z3 := k3'.lt
   go_wp2
   go_ret
   exact ⟨[], a, 1, rfl, k3, (But.of_below bq).trans B3, HP.out⟩
  ·have hng : ¬ (B.length : Int) - (a : Int) < (n : Int) := by omega
   have HP : Hid (Pg B [] (takeP n (B.drop a)) 0 ((B.drop a).take n) (a + n) 0) := ⟨by omega, .inr ⟨rfl, .inr ⟨(B.drop a).drop n, by unfold takeP; rw [if_neg (by omega)], rfl, by rw [List.drop_drop]⟩⟩⟩
   have hb1 : (a : Int) ≤ (a : Int) + (n : Int) ∧ (a : Int) + (n : Int) ≤ (B.length : Int) := by omega
   have ht : ((a : Int) + (n : Int)).toNat = a + n := by omega
   have hex := mid_ext B a n
   generalize (B.drop a).take n = T at *
   clear hdl hs
   go_enter Tryz.func218, Tryz.ntmps218
   go_wp2_with fail
   go_quiet (fail)
   have bq := drewN_below (Below.refl w.heap.size w) nq
   have k1 := k'.below bq zb
   generalize w.drewN nq = wa at *
   clear c0 c1 c2
   have c0 := (k1.cell 0).trans rfl
   have c1 := (k1.cell 1).trans rfl
   have c2 := (k1.cell 2).trans rfl
   have za := k1.lt
   go_upto_region 5 with fail
   go_quiet (fail)
   have bq2 := bq.trans ((drewN_below (Below.refl wa.heap.size wa) nq).mono bq.size)
   have k2 := k'.below bq2 zb
   generalize wa.drewN nq = wb at *
   clear c0 c1 c2 k1 za bq
   have c1 := (k2.cell 1).trans rfl
   have f1 := k2.frozen 1
   have z2 := k2.lt
   have k3 := k2.set 1 (.int .i64 ((a : Int) + (n : Int)))
   have B3 : But (fun k => k = gb) w (wb.setCell ⟨gb, 1, none⟩ (.int .i64 ((a : Int) + (n : Int)))) := (But.of_below bq2).trans (but_set wb gb 1 _)
   go_wp2
   go_ret
   refine ⟨T, a + n, 0, rfl, ?_, B3, HP.out⟩
   have e : ((a : Int) + (n : Int)) = ((a + n : Nat) : Int) := by omega
   rw [e] at k3 ⊢
   exact k3
 ·have hb : (E == 0) = false := by simpa using h0
  have hb2 : (E != 0) = true := by simpa using h0
  have HP : Hid (Pg B [] (takeP n (B.drop a)) E [] a E) := ⟨ha, .inl ⟨h0, rfl, rfl⟩⟩
  clear h0 hdl
  go_enter Tryz.func218, Tryz.ntmps218
  go_wp2_with fail
  go_quiet (fail)
  have bq := drewN_below (Below.refl w.heap.size w) nq
  have k1 := k'.below bq zb
  generalize w.drewN nq = wa at *
  clear c0 c1 c2
  have c2 := (k1.cell 2).trans rfl
  have za := k1.lt
  go_wp2
  go_ret
  exact ⟨[], a, E, rfl, k1, But.of_below bq, HP.out⟩
theorem drop_len {B : List UInt8} {a : Nat} {s : List UInt8} (h : B.drop a = s) (ha : a ≤ B.length) : a + s.length = B.length := by
 rw [← h, List.length_drop]; omega
set_option maxHeartbeats 3200000 in
theorem gupTo_any (gb : Nat) (B : List UInt8) (a : Nat) (E most : Int) (w : World) (k : Gt w gb B a E) (ha : a ≤ B.length) (hm : 0 ≤ most ∧ most ≤ 1099511627775) (hL : B.length ≤ 1099511627000) :
  Calls Tryz.prog 122 #[.pointer (some ⟨gb, 0, none⟩), .int .i64 most] w fun e w' => GotG gb B 0 (numP most (B.drop a)) (fun n => .int .i64 n) E w e w' := by
 have K1 := gtake_any gb B a 1 E w k ha (by omega) hL
 go_enter Tryz.func122, Tryz.ntmps122
 go_wp2_with fail
 refine K1.mono ?_
 clear K1
 rintro e w1 ⟨t1, a1, E1, rfl, k1, B1, P1⟩
 have kk : Blk w1 gb #[.string ⟨B.toArray⟩, .int .i64 a1, .int .i64 E1] 81 := k1
 have c2 : w1.cell? ⟨gb, 2, none⟩ = some (.int .i64 E1) := kk.cell 2
 have zb := kk.lt
 obtain ⟨ha1, ⟨h0, rfl, rfl⟩ | ⟨rfl, ⟨er, hx, rfl, rfl⟩ | ⟨r, hx, rfl, hd⟩⟩⟩ := P1
 ·have hb : (E1 != 0) = true := by simpa using h0
  have HP : Hid (Pg B 0 (numP most (B.drop a)) E1 0 a1 E1) := ⟨ha1, .inl ⟨h0, rfl, rfl⟩⟩
  clear h0
  go_wp2
  go_ret
  exact ⟨0, a1, E1, rfl, k1, B1, HP.out⟩
 ·have e1 : E1 = 1 ∧ B.drop a = [] := by
   unfold takeP at hx
   split at hx
   ·rename_i hl
    injection hx with hx
    exact ⟨hx.symm, List.eq_nil_of_length_eq_zero (by omega)⟩
   ·cases hx
  obtain ⟨rfl, hnil⟩ := e1
  have HP : Hid (Pg B 0 (numP most (B.drop a)) 0 0 a1 1) := ⟨ha1, .inr ⟨rfl, .inl ⟨1, by rw [hnil]; rfl, rfl, rfl⟩⟩⟩
  clear hx hnil
  go_wp2
  go_ret
  exact ⟨0, a1, 1, rfl, k1, B1, HP.out⟩
 ·obtain ⟨c, hB, rfl⟩ : ∃ c, B.drop a = c :: r ∧ t1 = [c] := by
   unfold takeP at hx
   split at hx
   ·cases hx
   ·rename_i hl
    injection hx with hx
    injection hx with e1 e2
    cases hq : B.drop a with
    | nil => rw [hq] at hl; simp at hl
    | cons c q =>
     rw [hq] at e1 e2
     have e3 : q = r := by simpa using e2
     subst e3
     exact ⟨c, rfl, by simpa using e1.symm⟩
  have hlen1 := drop_len hd ha1
  have HR : Hid (numP most (B.drop a) = if 5 < c.toNat then .error 2 else if r.length < c.toNat then .error 1 else if (r.take c.toNat).head? = some 0 then .error 2 else if most < (val (r.take c.toNat) : Int) then .error 3 else .ok (val (r.take c.toNat), r.drop c.toNat)) := by show _ = _; rw [hB]; rfl
  have hix : ∀ h : 0 < (⟨#[c]⟩ : ByteArray).size, ((⟨#[c]⟩ : ByteArray)[0]'h).toNat = c.toNat := fun h => rfl
  have hc256 : c.toNat < 256 := c.toNat_lt
  have hwz : wrap64 (c.toNat : Int) = (c.toNat : Int) := by unfold wrap64; omega
  clear hx hB
  by_cases h5 : 5 < c.toNat
  ·have h5' : (5 : Int) < (c.toNat : Int) := by omega
   have HP : Hid (Pg B 0 (numP most (B.drop a)) 0 0 a1 2) := ⟨ha1, .inr ⟨rfl, .inl ⟨2, by rw [HR.out, if_pos h5], rfl, rfl⟩⟩⟩
   generalize c.toNat = z at *
   clear HR h5
   go_wp2_with fail
   refine (gbad_any gb B a1 0 2 w1 k1).mono ?_
   rintro e w3 ⟨rfl, k3, B3⟩
   rw [if_pos rfl] at k3
   go_wp2
   go_ret
   exact ⟨0, a1, 2, rfl, k3, B1.trans B3, HP.out⟩
  have h5' : ¬ (5 : Int) < (c.toNat : Int) := by omega
  have K2 := gtake_any gb B a1 c.toNat 0 w1 k1 ha1 (by omega) hL
  rw [hd] at K2
  have hR2 := HR.out
  rw [if_neg h5] at hR2
  have HT : Hid (∀ t2 a2 E2, Pg B [] (takeP c.toNat r) 0 t2 a2 E2 → t2.length ≤ 5 ∧ a2 ≤ B.length ∧ ((E2 = 1 ∧ t2 = [] ∧ numP most (B.drop a) = .error 1) ∨ (E2 = 0 ∧ numP most (B.drop a) = (if t2.head? = some 0 then .error 2 else if most < (val t2 : Int) then .error 3 else .ok (val t2, B.drop a2))))) := by
   intro t2 a2 E2 P2
   obtain ⟨ha2, ⟨h0, _⟩ | ⟨_, ⟨er, hx, rfl, rfl⟩ | ⟨r2, hx, rfl, hd2⟩⟩⟩ := P2
   ·exact (h0 rfl).elim
   ·unfold takeP at hx
    split at hx
    ·rename_i hl
     injection hx with hx
     subst hx
     exact ⟨by simp, ha2, .inl ⟨rfl, rfl, by rw [hR2, if_pos hl]⟩⟩
    ·cases hx
   ·unfold takeP at hx
    split at hx
    ·cases hx
    ·rename_i hl
     injection hx with hx
     injection hx with e1 e2
     subst e1 e2
     refine ⟨by rw [List.length_take]; omega, ha2, .inr ⟨rfl, ?_⟩⟩
     rw [hR2, if_neg hl, hd2]
  generalize c.toNat = z at *
  clear HR hR2 h5 hlen1
  go_wp2_with fail
  refine K2.mono ?_
  clear K2
  rintro e w2 ⟨l, a2, E2, rfl, k2, B2, P2⟩
  obtain ⟨hl5, ha2, hcase⟩ := HT.out l a2 E2 P2
  have HCS : Hid ((E2 = 1 ∧ l = [] ∧ numP most (B.drop a) = .error 1) ∨ (E2 = 0 ∧ numP most (B.drop a) = (if l.head? = some 0 then .error 2 else if most < (val l : Int) then .error 3 else .ok (val l, B.drop a2)))) := hcase
  have B3 := B1.trans B2
  have kk2 : Blk w2 gb #[.string ⟨B.toArray⟩, .int .i64 a2, .int .i64 E2] 81 := k2
  have szl := str_size' l
  clear HT P2 hcase k1 B1 B2 c2 zb kk
  go_upto_block 0 with fail
  go_cut [7] (fun nv wx => nv = .int .i64 (val l : Int) ∧ w2 = wx)
  case first =>
   clear HCS kk2 k2
   go_wp2_with fail
   go_loopw [7, 8] (fun nv iv wv => ∃ (i m : Nat), i ≤ l.length ∧ iv = .int .i64 i ∧ nv = .int .i64 m ∧ Hid (m = val (l.take i)) ∧ w2 = wv) (fun _ iv _ => l.length - (intOf iv).toNat)
   case atStart => exact ⟨0, 0, Nat.zero_le _, rfl, rfl, rfl, rfl⟩
   case round =>
    obtain ⟨i, m, hi, rfl, rfl, HN, rfl⟩ := hrel
    by_cases hlt : i < l.length
    ·have hlt' : (i : Int) < (l.length : Int) := by omega
     have hb : l[i].toNat < 256 := l[i].toNat_lt
     have hml : m < 4294967296 := by
      rw [HN.out]
      have h1 := val_lt (l.take i)
      have h2 : (l.take i).length ≤ 4 := by rw [List.length_take]; omega
      have h3 : 256 ^ (l.take i).length ≤ 256 ^ 4 := Nat.pow_le_pow_right (by omega) h2
      omega
     have hx : ∀ h : i < (⟨l.toArray⟩ : ByteArray).size, ((⟨l.toArray⟩ : ByteArray)[i]'h).toNat = l[i].toNat := fun h => rfl
     have Hst : Hid (val (l.take (i + 1)) = m * 256 + l[i].toNat) := by show _ = _; rw [val_take l hlt, ← HN.out]
     have w1 := wrapJ ((m : Int) * 256) (by omega) (by omega)
     have w2' := wrapJ ((m : Int) * 256 + (l[i].toNat : Int)) (by omega) (by omega)
     have w3 := wrapJ (l[i].toNat : Int) (by omega) (by omega)
     have w4 : wrap64 (l[i].toNat : Int) = (l[i].toNat : Int) := by unfold wrap64; omega
     go_wp2
     refine ⟨⟨i + 1, m * 256 + l[i].toNat, by omega, by go_num, ?_, ?_, trivial⟩, by simp [intOf]; omega⟩
     ·refine congrArg (Value.int .i64) ?_
      omega
     ·show _ = _; rw [Hst.out]
    ·have hge : ¬ (i : Int) < (l.length : Int) := by omega
     have HM : Hid ((m : Int) = (val l : Int)) := by
      have h := HN.out
      rw [List.take_of_length_le (by omega)] at h
      show _ = _
      rw [h]
     clear HN
     go_wp2_with fail
     go_meet
     case rel => exact ⟨by rw [HM.out], rfl⟩
  case rest =>
   obtain ⟨rfl, rfl⟩ := hcut
   refine ‹∀ a w, Code.wp Tryz.prog _ _ a w → _› _ _ ?_
   have c2 : w2.cell? ⟨gb, 2, none⟩ = some (.int .i64 E2) := kk2.cell 2
   have zb := kk2.lt
   rcases HCS.out with ⟨rfl, rfl, hN⟩ | ⟨rfl, hN⟩
   ·have HP : Hid (Pg B 0 (numP most (B.drop a)) 0 0 a2 1) := ⟨ha2, .inr ⟨rfl, .inl ⟨1, hN, rfl, rfl⟩⟩⟩
    have ev : val ([] : List UInt8) = 0 := rfl
    rw [ev]
    have hge : ¬ most < 0 := by omega
    clear hN HCS ev
    go_wp2
    go_ret
    exact ⟨0, a2, 1, rfl, k2, B3, HP.out⟩
   ·cases l with
    | nil =>
     have ev : val ([] : List UInt8) = 0 := rfl
     rw [ev] at hN ⊢
     have hge : ¬ most < 0 := by omega
     have HP : Hid (Pg B 0 (numP most (B.drop a)) 0 0 a2 0) := ⟨ha2, .inr ⟨rfl, .inr ⟨B.drop a2, by rw [hN, if_neg (by simp), if_neg (by omega)]; rfl, rfl, rfl⟩⟩⟩
     clear hN HCS ev
     go_wp2
     go_ret
     exact ⟨0, a2, 0, rfl, k2, B3, HP.out⟩
    | cons d u =>
     have hci : ∀ h : 0 < (⟨(d :: u).toArray⟩ : ByteArray).size, (⟨(d :: u).toArray⟩ : ByteArray)[0]'h = d := fun h => rfl
     have hpos : (0 : Int) < ((d :: u).length : Int) := by simp only [List.length_cons]; omega
     have hvb : (0 : Int) ≤ (val (d :: u) : Int) := by omega
     generalize (d :: u).length = ln at *
     by_cases hd0 : d = 0
     ·subst hd0
      have HP : Hid (Pg B 0 (numP most (B.drop a)) 0 0 a2 2) := ⟨ha2, .inr ⟨rfl, .inl ⟨2, by rw [hN, if_pos (by simp)], rfl, rfl⟩⟩⟩
      generalize (val (0 :: u) : Int) = vv at *
      clear hN HCS
      go_wp2_with fail
      refine (gbad_any gb B a2 0 2 w2 k2).mono ?_
      rintro e w3 ⟨rfl, k3, B4⟩
      rw [if_pos rfl] at k3
      have k3' : Blk w3 gb #[.string ⟨B.toArray⟩, .int .i64 a2, .int .i64 2] 81 := k3
      clear c2 zb
      have c2 := (k3'.cell 2).trans rfl
      have zb := k3'.lt
      by_cases hv : most < vv
      ·go_wp2_with fail
       refine (gbad_any gb B a2 2 3 w3 k3).mono ?_
       rintro e w4 ⟨rfl, k4, B5⟩
       rw [if_neg (by omega)] at k4
       have k4' : Blk w4 gb #[.string ⟨B.toArray⟩, .int .i64 a2, .int .i64 2] 81 := k4
       clear c2 zb
       have c2 := (k4'.cell 2).trans rfl
       have zb := k4'.lt
       go_wp2
       go_ret
       exact ⟨0, a2, 2, rfl, k4, (B3.trans B4).trans B5, HP.out⟩
      ·go_wp2
       go_ret
       exact ⟨0, a2, 2, rfl, k3, B3.trans B4, HP.out⟩
     ·have hcn : (d.toNat : Int) ≠ 0 := fun e => hd0 (by
       have : d.toNat = 0 := by omega
       exact UInt8.toNat_inj.1 (by simpa using this))
      have hcb : ((d.toNat : Int) == 0) = false := by simpa using hcn
      rw [if_neg (by simpa using hd0)] at hN
      clear hcn hd0
      by_cases hv : most < (val (d :: u) : Int)
      ·have HP : Hid (Pg B 0 (numP most (B.drop a)) 0 0 a2 3) := ⟨ha2, .inr ⟨rfl, .inl ⟨3, by rw [hN, if_pos hv], rfl, rfl⟩⟩⟩
       generalize (val (d :: u) : Int) = vv at *
       clear hN HCS
       go_wp2_with fail
       refine (gbad_any gb B a2 0 3 w2 k2).mono ?_
       rintro e w3 ⟨rfl, k3, B4⟩
       rw [if_pos rfl] at k3
       have k3' : Blk w3 gb #[.string ⟨B.toArray⟩, .int .i64 a2, .int .i64 3] 81 := k3
       clear c2 zb
       have c2 := (k3'.cell 2).trans rfl
       have zb := k3'.lt
       go_wp2
       go_ret
       exact ⟨0, a2, 3, rfl, k3, B3.trans B4, HP.out⟩
      ·have HP : Hid (Pg B 0 (numP most (B.drop a)) 0 (val (d :: u) : Int) a2 0) := ⟨ha2, .inr ⟨rfl, .inr ⟨B.drop a2, by rw [hN, if_neg hv], rfl, rfl⟩⟩⟩
       generalize (val (d :: u) : Int) = vv at *
       clear hN HCS
       go_wp2
       go_ret
       exact ⟨vv, a2, 0, rfl, k2, B3, HP.out⟩
set_option maxHeartbeats 800000 in
theorem gnum_any (gb : Nat) (B : List UInt8) (a : Nat) (E : Int) (w : World) (k : Gt w gb B a E) (ha : a ≤ B.length) (hL : B.length ≤ 1099511627000) :
  Calls Tryz.prog 44 #[.pointer (some ⟨gb, 0, none⟩)] w fun e w' => GotG gb B 0 (numP 1099511627775 (B.drop a)) (fun n => .int .i64 n) E w e w' := by
 have K := gupTo_any gb B a E 1099511627775 w k ha (by omega) hL
 go_enter Tryz.func44, Tryz.ntmps44
 go_wp2_with fail
 refine K.mono ?_
 rintro e w1 ⟨n, a', E', rfl, h⟩
 go_wp2
 go_ret
 exact ⟨n, a', E', rfl, h⟩
set_option maxHeartbeats 1600000 in
theorem gflag_all (gb : Nat) (B : List UInt8) (a : Nat) (E : Int) (w : World) (k : Gt w gb B a E) (ha : a ≤ B.length) (hL : B.length ≤ 1099511627000) :
  Calls Tryz.prog 127 #[.pointer (some ⟨gb, 0, none⟩)] w fun e w' => GotG gb B false (flagP (B.drop a)) (fun x => .bool x) E w e w' := by
 have K1 := gtake_any gb B a 1 E w k ha (by omega) hL
 go_enter Tryz.func127, Tryz.ntmps127
 go_wp2_with fail
 refine K1.mono ?_
 clear K1
 rintro e w1 ⟨t1, a1, E1, rfl, k1, B1, P1⟩
 have kk : Blk w1 gb #[.string ⟨B.toArray⟩, .int .i64 a1, .int .i64 E1] 81 := k1
 have c2 : w1.cell? ⟨gb, 2, none⟩ = some (.int .i64 E1) := kk.cell 2
 have zb := kk.lt
 obtain ⟨ha1, ⟨h0, rfl, rfl⟩ | ⟨rfl, ⟨er, hx, rfl, rfl⟩ | ⟨r, hx, rfl, hd⟩⟩⟩ := P1
 ·have hb : (E1 != 0) = true := by simpa using h0
  have HP : Hid (Pg B false (flagP (B.drop a)) E1 false a1 E1) := ⟨ha1, .inl ⟨h0, rfl, rfl⟩⟩
  clear h0
  go_wp2
  go_ret
  exact ⟨false, a1, E1, rfl, k1, B1, HP.out⟩
 ·have e1 : E1 = 1 ∧ B.drop a = [] := by
   unfold takeP at hx
   split at hx
   ·rename_i hl
    injection hx with hx
    exact ⟨hx.symm, List.eq_nil_of_length_eq_zero (by omega)⟩
   ·cases hx
  obtain ⟨rfl, hnil⟩ := e1
  have HP : Hid (Pg B false (flagP (B.drop a)) 0 false a1 1) := ⟨ha1, .inr ⟨rfl, .inl ⟨1, by rw [hnil]; rfl, rfl, rfl⟩⟩⟩
  clear hx hnil
  go_wp2
  go_ret
  exact ⟨false, a1, 1, rfl, k1, B1, HP.out⟩
 ·obtain ⟨c, hB, rfl⟩ : ∃ c, B.drop a = c :: r ∧ t1 = [c] := by
   unfold takeP at hx
   split at hx
   ·cases hx
   ·rename_i hl
    injection hx with hx
    injection hx with e1 e2
    cases hq : B.drop a with
    | nil => rw [hq] at hl; simp at hl
    | cons c q =>
     rw [hq] at e1 e2
     have e3 : q = r := by simpa using e2
     subst e3
     exact ⟨c, rfl, by simpa using e1.symm⟩
  have HR : Hid (flagP (B.drop a) = if 1 < c.toNat then .error 2 else .ok (c == 1, r)) := by show _ = _; rw [hB]; rfl
  have hix : ∀ h : 0 < (⟨#[c]⟩ : ByteArray).size, ((⟨#[c]⟩ : ByteArray)[0]'h).toNat = c.toNat := fun h => rfl
  have HCB : Hid (((c.toNat : Int) == 1) = (c == 1)) := by
   show _ = _
   by_cases hc : c = 1
   ·subst hc; rfl
   ·have h2 : ¬ c.toNat = 1 := fun e => hc (UInt8.toNat_inj.1 (by simpa using e))
    have h3 : ((c.toNat : Int) == 1) = false := by rw [beq_eq_false_iff_ne]; omega
    rw [h3]
    symm
    simpa using hc
  clear hx hB
  by_cases h1 : 1 < c.toNat
  ·have h1' : (1 : Int) < (c.toNat : Int) := by omega
   have hcf : ((c.toNat : Int) == 1) = false := by rw [beq_eq_false_iff_ne]; omega
   have HP : Hid (Pg B false (flagP (B.drop a)) 0 false a1 2) := ⟨ha1, .inr ⟨rfl, .inl ⟨2, by rw [HR.out, if_pos h1], rfl, rfl⟩⟩⟩
   generalize c.toNat = z at *
   clear HR h1 HCB
   go_wp2_with fail
   refine (gbad_any gb B a1 0 2 w1 k1).mono ?_
   rintro e w3 ⟨rfl, k3, B3⟩
   rw [if_pos rfl] at k3
   go_wp2
   go_ret
   exact ⟨false, a1, 2, rfl, k3, B1.trans B3, HP.out⟩
  ·have h1' : ¬ (1 : Int) < (c.toNat : Int) := by omega
   have HP : Hid (Pg B false (flagP (B.drop a)) 0 ((c.toNat : Int) == 1) a1 0) := ⟨ha1, .inr ⟨rfl, .inr ⟨r, by rw [HR.out, if_neg h1, HCB.out], rfl, hd⟩⟩⟩
   generalize c.toNat = z at *
   clear HR h1 HCB
   go_wp2
   go_ret
   exact ⟨_, a1, 0, rfl, k1, B1, HP.out⟩
theorem numP_err {m : Int} {s : List UInt8} {er : Int} (h : numP m s = .error er) : er ≠ 0 := by
 cases s with
 | nil => injection h with h; omega
 | cons c r =>
  rw [numP] at h
  split at h
  ·injection h with h; omega
  ·split at h
   ·injection h with h; omega
   ·split at h
    ·injection h with h; omega
    ·split at h
     ·injection h with h; omega
     ·cases h
set_option maxHeartbeats 1600000 in
theorem gdig_all (gb : Nat) (B : List UInt8) (a : Nat) (E : Int) (w : World) (k : Gt w gb B a E) (ha : a ≤ B.length) (hL : B.length ≤ 1099511627000) :
  Calls Tryz.prog 128 #[.pointer (some ⟨gb, 0, none⟩)] w fun e w' => GotG gb B 0 (digP (B.drop a)) (fun n => .int .u64 n) E w e w' := by
 have K1 := gtake_any gb B a 8 E w k ha (by omega) hL
 have HT : Hid (∀ t a1 E1, Pg B [] (takeP 8 (B.drop a)) E t a1 E1 → t.length ≤ 8 ∧ Pg B 0 (digP (B.drop a)) E (val t : Int) a1 E1) := by
  intro t a1 E1 P1
  obtain ⟨ha1, ⟨h0, h1, rfl⟩ | ⟨h0, ⟨er, hx, h1, rfl⟩ | ⟨r, hx, h1, hd⟩⟩⟩ := P1
  ·exact ⟨by simp, ha1, .inl ⟨h0, h1, rfl⟩⟩
  ·refine ⟨by simp, ha1, .inr ⟨h0, .inl ⟨er, ?_, h1, rfl⟩⟩⟩
   unfold takeP at hx
   unfold digP
   split at hx
   ·rename_i hl
    rw [if_pos hl]
    injection hx with hx
    rw [hx]
   ·cases hx
  ·unfold takeP at hx
   split at hx
   ·cases hx
   ·rename_i hl
    injection hx with hx
    injection hx with e1 e2
    subst e1 e2
    refine ⟨by rw [List.length_take]; omega, ha1, .inr ⟨h0, .inr ⟨_, ?_, h1, hd⟩⟩⟩
    unfold digP
    rw [if_neg hl]
 go_enter Tryz.func128, Tryz.ntmps128
 go_wp2_with fail
 refine K1.mono ?_
 clear K1
 rintro e w1 ⟨l, a1, E1, rfl, k1, B1, P1⟩
 simp only
 obtain ⟨hl8, P2⟩ := HT.out l a1 E1 P1
 have HP : Hid (Pg B 0 (digP (B.drop a)) E (val l : Int) a1 E1) := P2
 have szl := str_size' l
 clear HT P1 P2
 go_wp2_with fail
 go_loopw [4, 5] (fun nv iv wv => ∃ (i m : Nat), i ≤ l.length ∧ iv = .int .i64 i ∧ nv = .int .u64 m ∧ Hid (m = val (l.take i)) ∧ w1 = wv) (fun _ iv _ => l.length - (intOf iv).toNat)
 case atStart => exact ⟨0, 0, Nat.zero_le _, rfl, rfl, rfl, rfl⟩
 case round =>
  obtain ⟨i, m, hi, rfl, rfl, HN, rfl⟩ := hrel
  by_cases hlt : i < l.length
  ·have hlt' : (i : Int) < (l.length : Int) := by omega
   have hb : l[i].toNat < 256 := l[i].toNat_lt
   have hmn : m < 72057594037927936 := by rw [HN.out]; exact val_take_lt l i (by omega)
   have hx : ∀ h : i < (⟨l.toArray⟩ : ByteArray).size, ((⟨l.toArray⟩ : ByteArray)[i]'h).toNat = l[i].toNat := fun h => rfl
   have Hst : Hid (val (l.take (i + 1)) = m * 256 + l[i].toNat) := by show _ = _; rw [val_take l hlt, ← HN.out]
   have w1' := wrap_u ((m : Int) * 256) (by omega) (by omega)
   have w2' := wrap_u ((m : Int) * 256 + (l[i].toNat : Int)) (by omega) (by omega)
   have w3 := wrap_u (l[i].toNat : Int) (by omega) (by omega)
   go_wp2
   refine ⟨⟨i + 1, m * 256 + l[i].toNat, by omega, by go_num, ?_, ?_, trivial⟩, by simp [intOf]; omega⟩
   ·refine congrArg (Value.int .u64) ?_
    omega
   ·show _ = _; rw [Hst.out]
  ·have hge : ¬ (i : Int) < (l.length : Int) := by omega
   have HM : Hid ((m : Int) = (val l : Int)) := by
    have h := HN.out
    rw [List.take_of_length_le (by omega)] at h
    show _ = _
    rw [h]
   clear HN
   go_wp2
   go_ret
   exact ⟨(val l : Int), a1, E1, by rw [← HM.out]; rfl, k1, B1, HP.out⟩
set_option maxHeartbeats 800000 in
theorem gtext_all (gb : Nat) (B : List UInt8) (a : Nat) (E most : Int) (w : World) (k : Gt w gb B a E) (ha : a ≤ B.length) (hm : 0 ≤ most ∧ most ≤ 100000) (hL : B.length ≤ 1099511627000) :
  Calls Tryz.prog 156 #[.pointer (some ⟨gb, 0, none⟩), .int .i64 most] w fun e w' => GotG gb B [] (textP most (B.drop a)) (fun t => .string ⟨t.toArray⟩) E w e w' := by
 have K := gupTo_any gb B a E most w k ha (by omega) hL
 go_enter Tryz.func156, Tryz.ntmps156
 go_wp2_with fail
 refine K.mono ?_
 clear K
 rintro e w1 ⟨n, a1, E1, rfl, k1, B1, P1⟩
 simp only
 have hn : 0 ≤ n ∧ n ≤ most := by
  obtain ⟨_, ⟨_, _, rfl⟩ | ⟨_, ⟨er, _, _, rfl⟩ | ⟨r, hx, _, _⟩⟩⟩ := P1
  ·omega
  ·omega
  ·have := numP_back hx; omega
 obtain ⟨m, rfl⟩ : ∃ m : Nat, n = m := ⟨n.toNat, by omega⟩
 have ha1 := P1.1
 have K2 := gtake_any gb B a1 m E1 w1 k1 ha1 (by omega) hL
 have HT : Hid (∀ t a2 E2, Pg B [] (takeP m (B.drop a1)) E1 t a2 E2 → Pg B [] (textP most (B.drop a)) E t a2 E2) := by
  intro t a2 E2 P2
  obtain ⟨ha2, P2⟩ := P2
  refine ⟨ha2, ?_⟩
  obtain ⟨_, ⟨h0, rfl, h2⟩ | ⟨rfl, ⟨er, hx, rfl, h2⟩ | ⟨r, hx, rfl, hd⟩⟩⟩ := P1
  ·rcases P2 with ⟨q1, q2, q3⟩ | ⟨q1, _⟩
   ·exact .inl ⟨h0, q2, q3⟩
   ·exact (h0 q1).elim
  ·have hne : E1 ≠ 0 := numP_err hx
   rcases P2 with ⟨q1, q2, q3⟩ | ⟨q1, _⟩
   ·exact .inr ⟨rfl, .inl ⟨E1, by unfold textP; rw [hx], q2, q3⟩⟩
   ·exact (hne q1).elim
  ·rcases P2 with ⟨q1, _⟩ | ⟨_, ⟨er, hy, q2, q3⟩ | ⟨r2, hy, q2, q3⟩⟩
   ·exact (q1 rfl).elim
   ·refine .inr ⟨rfl, .inl ⟨er, ?_, q2, q3⟩⟩
    unfold textP
    rw [hx]
    rw [hd] at hy
    unfold takeP at hy
    simp only [Int.toNat_natCast]
    split at hy
    ·rename_i hl
     rw [if_pos hl]
     injection hy with hy
     rw [hy]
    ·cases hy
   ·refine .inr ⟨rfl, .inr ⟨r2, ?_, q2, q3⟩⟩
    unfold textP
    rw [hx]
    rw [hd] at hy
    unfold takeP at hy
    simp only [Int.toNat_natCast]
    split at hy
    ·cases hy
    ·rename_i hl
     rw [if_neg hl]
     exact hy
 clear P1
 go_wp2_with fail
 refine K2.mono ?_
 rintro e w2 ⟨t, a2, E2, rfl, k2, B2, P2⟩
 have HP : Hid (Pg B [] (textP most (B.drop a)) E t a2 E2) := HT.out t a2 E2 P2
 clear HT P2 K2
 go_wp2
 go_ret
 exact ⟨t, a2, E2, rfl, k2, B1.trans B2, HP.out⟩
end Go.Proofs.YtackcbpabjhmpaaGreat
