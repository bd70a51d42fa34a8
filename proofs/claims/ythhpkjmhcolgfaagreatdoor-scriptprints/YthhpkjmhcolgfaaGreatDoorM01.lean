import Derived.Test.YthhpkjmhcolgfaaGreatDoorSBase
import Derived.Deep.CutBlock
import Derived.Laws.Bits64b
import Derived.Laws.MakeOwn
import Derived.Lib.BufferWrite
import Derived.Lib.UnsafeStr
import Derived.Maps.AppendAt
import Derived.OwnWalk
import Derived.Deep.RegionHeld3
namespace Go.Proofs.YthhpkjmhcolgfaaGreatDoor
open Go.RowKit
set_option linter.unusedVariables false
set_option linter.unusedSimpArgs false
set_option maxRecDepth 20000
set_option maxHeartbeats 8000000
abbrev Key := List UInt8
def str (k : Key) : ByteArray := ⟨k.toArray⟩
theorem str_size (k : Key) : (str k).size = k.length := by simp [str, ByteArray.size]
theorem str_get (k : Key) (i : Nat) (h : i < k.length) (h' : i < (str k).size) : (str k)[i] = k[i] := by
 show (k.toArray)[i]'(by simpa using h) = k[i];exact List.getElem_toArray _
theorem str_toList (k : Key) : (str k).toList = k := ByteArray.toList_mk k
theorem rbegins_any (k p : Key) (w : World) (hk : k.length ≤ 1000000) (hp : p.length ≤ maxLen) :
  Calls Tryz.prog 47 #[.string (str k), .string (str p)] w fun e w' => e = .returned (.bool (p.isPrefixOf k)) ∧ w = w' := by
 have s1 := str_size k;have s2 := str_size p;unfold maxLen at hp
 by_cases h : p.length ≤ k.length
 ·have h' : (p.length : Int) ≤ (k.length : Int) := by omega
  have hex : (str k).extract 0 p.length = str (k.take p.length) := by
   unfold str;apply ByteArray.ext;rw [ByteArray.data_extract];apply Array.ext';simp
  have HP : Hid (p.isPrefixOf k = ((str (k.take p.length)).toList == (str p).toList)) := by
   show _ = _;rw [str_toList, str_toList, Bool.eq_iff_iff, List.isPrefixOf_iff_prefix, beq_iff_eq];constructor
   ·intro h2; exact (List.prefix_iff_eq_take.1 h2).symm
   ·intro h2; rw [← h2]; exact List.take_prefix _ _
  go_enter Tryz.func47, Tryz.ntmps47
  go_wp2
  go_ret
  exact ⟨by rw [HP.out]; rfl, rfl⟩
 ·have h' : ¬ (p.length : Int) ≤ (k.length : Int) := by omega
  have HP : Hid (p.isPrefixOf k = false) := by
   show _ = _;rw [Bool.eq_false_iff];intro e;have := (List.isPrefixOf_iff_prefix.1 e).length_le;omega
  go_enter Tryz.func47, Tryz.ntmps47
  go_wp2
  go_ret
  exact ⟨by rw [HP.out]; rfl, rfl⟩
def isL (c : UInt8) : Bool := decide (97 ≤ c.toNat) && decide (c.toNat ≤ 122)
def isD (c : UInt8) : Bool := decide (48 ≤ c.toNat) && decide (c.toNat ≤ 57)
def goes (c : UInt8) : Bool := isL c || isD c || decide (c.toNat = 95)
def spanN (f : UInt8 → Bool) : List UInt8 → Nat
 | [] => 0
 | c :: r => if f c then spanN f r + 1 else 0
theorem spanN_at (f : UInt8 → Bool) : ∀ (s : List UInt8) (k : Nat), k ≤ s.length → (∀ i c, i < k → s[i]? = some c → f c = true) → (∀ c, s[k]? = some c → f c = false) → spanN f s = k
 | [], k, hk, _, _ => by simp at hk; subst hk; rfl
 | c :: r, 0, _, _, h => by
  have := h c rfl;simp [spanN, this]
 | c :: r, k + 1, hk, ha, h => by
  have h0 := ha 0 c (by omega) rfl;have := spanN_at f r k (by simpa using hk) (fun i d hi hd => ha (i + 1) d (by omega) (by simpa using hd)) (fun d hd => h d (by simpa using hd));simp [spanN, h0, this]
def gap : Bool → List UInt8 → List UInt8
 | _, [] => []
 | false, c :: r => if c.toNat = 32 ∨ c.toNat = 10 then gap false r else if c.toNat = 35 then gap true r else c :: r
 | true, c :: r => if c.toNat = 10 then gap false r else gap true r
theorem gap_len : ∀ (b : Bool) (s : List UInt8), (gap b s).length ≤ s.length
 | _, [] => by cases ‹Bool› <;> simp [gap]
 | false, c :: r => by
  have h1 := gap_len false r;have h2 := gap_len true r;unfold gap
  split
  ·simp; omega
  ·split
   ·simp; omega
   ·simp
 | true, c :: r => by
  have h1 := gap_len false r;have h2 := gap_len true r;unfold gap
  split <;> simp <;> omega
def wordL : List (List UInt8) := [[99, 111, 110, 116, 114, 97, 99, 116], [115, 108, 111, 116], [109, 97, 112], [102, 110], [111, 112, 101, 110], [108, 101, 116], [105, 102], [101, 108, 115, 101], [119, 104, 105, 108, 101], [114, 101, 116, 117, 114, 110], [110, 101, 101, 100], [112, 97, 121], [110, 111, 116, 101], [97, 115, 107], [118, 97, 108, 117, 101], [103, 97, 115], [116, 114, 117, 101], [102, 97, 108, 115, 101], [115, 101, 108, 102], [99, 97, 108, 108, 101, 114], [104, 101, 105, 103, 104, 116], [98, 97, 108, 97, 110, 99, 101], [119, 104, 111], [110, 117, 109], [102, 108, 97, 103], [111, 114], [97, 110, 100], [110, 111, 116]]
def signL : List (List UInt8) := [[45, 62], [61, 61], [33, 61], [60, 61], [62, 61], [123], [125], [40], [41], [91], [93], [59], [58], [44], [46], [61], [60], [62], [43], [45], [42], [47], [37]]
inductive Tok where
 | none
 | fin
 | name (s : List UInt8)
 | num (n : Int)
 | fixed (s : List UInt8)
deriving DecidableEq
def wordOf (s : List UInt8) : Tok := if wordL.contains s then .fixed s else if s.length ≤ 16 then .name s else .none
def val10 (s : List UInt8) : Int := s.foldl (fun n c => 10 * n + ((c.toNat : Int) - 48)) 0
def numberOf (s : List UInt8) : Tok := if 1 < s.length ∧ s.head? = some 48 then .none else if 1099511627775 < val10 s then .none else .num (val10 s)
def signOf (s : List UInt8) : Tok × List UInt8 :=
 match signL.find? (fun g => decide (s.take g.length = g)) with
 | some g => (.fixed g, s.drop g.length)
 | none => (.none, s)
def cutT : List UInt8 → Tok × List UInt8
 | [] => (.fin, [])
 | c :: r =>
  if isL c then (wordOf ((c :: r).take (spanN goes (c :: r))), (c :: r).drop (spanN goes (c :: r)))
  else if isD c then (numberOf ((c :: r).take (spanN isD (c :: r))), (c :: r).drop (spanN isD (c :: r)))
  else signOf (c :: r)
def Tok.class : Tok → Int
 | .none => 0
 | .fin => 1
 | .name _ => 2
 | .num _ => 3
 | .fixed _ => 4
def Tok.text : Tok → List UInt8
 | .name s => s
 | .fixed s => s
 | _ => []
def Tok.n : Tok → Int
 | .num n => n
 | _ => 0
def Tok.vals (t : Tok) : List Value := [.int .i64 t.class, .string (str t.text), .int .i64 t.n]
inductive XT where
 | mk (op n : Int) (s : Key) (ar : List XT)
def XT.op : XT → Int
 | .mk o _ _ _ => o
inductive ST where
 | mk (k : Int) (nm al ca : Key) (ty : Int) (es : List XT) (bs ls : List ST)
inductive PEv where
 | tok (s : Key)
 | up
 | down
 | far
 | odd
def tkn (s : Key) : List PEv := [.tok s]
def upV : List PEv := [.up]
def downV : List PEv := [.down]
def farV : List PEv := [.far]
def oddV : List PEv := [.odd]
def holdI (op : Int) : Int :=
 if op = 6 then 1 else if op = 7 then 2 else if op = 8 then 3 else if 9 ≤ op ∧ op ≤ 14 then 4 else if op = 15 ∨ op = 16 then 5 else if 17 ≤ op ∧ op ≤ 19 then 6 else 7
def isTwo (op : Int) : Bool := decide (op = 6 ∨ op = 7 ∨ 9 ≤ op ∧ op ≤ 19)
def opWord (op : Int) : Key :=
 if op = 6 then [111, 114] else if op = 7 then [97, 110, 100] else if op = 8 then [110, 111, 116] else if op = 9 then [61, 61] else if op = 10 then [33, 61] else if op = 11 then [60] else if op = 12 then [60, 61] else if op = 13 then [62] else if op = 14 then [62, 61] else if op = 15 then [43] else if op = 16 then [45] else if op = 17 then [42] else if op = 18 then [47] else if op = 19 then [37] else if op = 20 then [115, 101, 108, 102] else if op = 21 then [99, 97, 108, 108, 101, 114] else if op = 22 then [118, 97, 108, 117, 101] else if op = 23 then [104, 101, 105, 103, 104, 116] else if op = 24 then [98, 97, 108, 97, 110, 99, 101] else if op = 25 then [119, 104, 111] else if op = 26 then [110, 117, 109] else []
def nmB (s : Key) : Bool := !s.isEmpty && decide (s.length ≤ 16) && (s.head?.map isL).getD false && s.all goes && !wordL.contains s
def nameV (s : Key) : List PEv := if nmB s then tkn s else oddV ++ tkn s
def kindK (k : Int) : Key := if k = 1 then [110, 117, 109] else if k = 2 then [102, 108, 97, 103] else [119, 104, 111]
def kindV (k : Int) : List PEv := if 1 ≤ k ∧ k ≤ 3 then tkn (kindK k) else oddV
def digK (n : Nat) : Key := if n < 10 then [UInt8.ofNat (48 + n)] else digK (n / 10) ++ [UInt8.ofNat (48 + n % 10)]
termination_by n
def brkV (r op : Int) (b : List PEv) : List PEv := if holdI op < r then upV ++ tkn [40] ++ b ++ tkn [41] ++ downV else b
def sepV : List (List PEv) → List PEv
 | [] => []
 | [b] => b
 | b :: r => b ++ tkn [44] ++ sepV r
def argsV (bs : List (List PEv)) : List PEv := (if 8 < bs.length then farV else []) ++ upV ++ tkn [40] ++ sepV bs ++ tkn [41] ++ downV
def takesI (op : Int) (n : Nat) : Nat := if isTwo op then 2 else if op = 8 ∨ op = 24 ∨ op = 25 ∨ op = 26 ∨ op = 4 then 1 else if op = 5 then n else 0
def namedI (op : Int) : Bool := decide (op = 3 ∨ op = 4 ∨ op = 5)
def rightN (op n : Int) : Bool := decide (n = 0 ∨ op = 1 ∧ 0 < n ∧ n ≤ 1099511627775 ∨ op = 2 ∧ n = 1)
def okX (op n : Int) (s : Key) (k : Nat) : Bool := decide (1 ≤ op ∧ op ≤ 26) && (k == takesI op k) && (namedI op == !s.isEmpty) && rightN op n
def shX (op n : Int) (s : Key) (ar : List (Int × List PEv)) : List PEv :=
 if okX op n s ar.length = false then oddV
 else if isTwo op then brkV (if holdI op = 4 then 5 else holdI op) ((ar.map (·.1)).getD 0 0) ((ar.map (·.2)).getD 0 []) ++ tkn (opWord op) ++ brkV (holdI op + 1) ((ar.map (·.1)).getD 1 0) ((ar.map (·.2)).getD 1 [])
 else if op = 1 then tkn (digK n.toNat)
 else if op = 2 then tkn (if n = 1 then [116, 114, 117, 101] else [102, 97, 108, 115, 101])
 else if op = 3 then nameV s
 else if op = 4 then nameV s ++ upV ++ tkn [91] ++ (ar.map (·.2)).getD 0 [] ++ tkn [93] ++ downV
 else if op = 5 then nameV s ++ argsV (ar.map (·.2))
 else if op = 8 then upV ++ tkn [110, 111, 116] ++ brkV 3 ((ar.map (·.1)).getD 0 0) ((ar.map (·.2)).getD 0 []) ++ downV
 else if op ≤ 23 then tkn (opWord op)
 else tkn (opWord op) ++ argsV (ar.map (·.2))
mutual
def XT.evs : XT → List PEv
 | .mk op n s ar => shX op n s (XT.all ar)
def XT.all : List XT → List (Int × List PEv)
 | [] => []
 | x :: r => (x.op, x.evs) :: XT.all r
end
theorem XT.all_map : ∀ l : List XT, XT.all l = l.map fun x => (x.op, x.evs)
 | [] => rfl
 | x :: r => by rw [XT.all, XT.all_map r]; rfl
def wantsI (k : Int) : Bool × Bool × Int × Int :=
 if k = 1 then (true, true, 1, 0) else if k = 2 then (true, false, 1, 0) else if k = 3 then (true, false, 2, 0) else if k = 4 then (false, false, 1, 2) else if k = 5 then (false, false, 1, 1) else if k = 6 ∨ k = 7 ∨ k = 9 then (false, false, 1, 0) else if k = 8 then (false, false, 2, 0) else if k = 10 then (true, false, 3, 0) else (false, false, -1, 0)
def okS (k : Int) (nm al ca : Key) (ty : Int) (ne nb nl : Nat) : Bool :=
 decide (0 ≤ (wantsI k).2.2.1) && (decide ((ne : Int) = (wantsI k).2.2.1) || decide (k = 10 ∧ (wantsI k).2.2.1 < ne)) && ((wantsI k).1 == !nm.isEmpty) && ((wantsI k).2.1 == decide (ty ≠ 0)) && (decide (k = 10) == !al.isEmpty) && (decide (k = 10) == !ca.isEmpty) && !(decide ((wantsI k).2.2.2 < 1) && decide (0 < nb)) && !(decide ((wantsI k).2.2.2 < 2) && decide (0 < nl))
def blockV (bs : List (List PEv)) : List PEv := upV ++ tkn [123] ++ bs.flatten ++ tkn [125] ++ downV
def shS (k : Int) (nm al ca : Key) (ty : Int) (es : List (List PEv)) (bs ls : List (List PEv)) : List PEv :=
 if okS k nm al ca ty es.length bs.length ls.length = false then oddV
 else if k = 1 then tkn [108, 101, 116] ++ nameV nm ++ tkn [58] ++ kindV ty ++ tkn [61] ++ es.getD 0 [] ++ tkn [59]
 else if k = 2 then nameV nm ++ tkn [61] ++ es.getD 0 [] ++ tkn [59]
 else if k = 3 then nameV nm ++ upV ++ tkn [91] ++ es.getD 0 [] ++ tkn [93] ++ downV ++ tkn [61] ++ es.getD 1 [] ++ tkn [59]
 else if k = 4 then tkn [105, 102] ++ es.getD 0 [] ++ blockV bs ++ (if ls.isEmpty then [] else tkn [101, 108, 115, 101] ++ blockV ls)
 else if k = 5 then tkn [119, 104, 105, 108, 101] ++ es.getD 0 [] ++ blockV bs
 else if k = 6 then tkn [114, 101, 116, 117, 114, 110] ++ es.getD 0 [] ++ tkn [59]
 else if k = 7 then tkn [110, 101, 101, 100] ++ es.getD 0 [] ++ tkn [59]
 else if k = 8 then tkn [112, 97, 121] ++ es.getD 0 [] ++ tkn [44] ++ es.getD 1 [] ++ tkn [59]
 else if k = 9 then tkn [110, 111, 116, 101] ++ es.getD 0 [] ++ tkn [59]
 else tkn [97, 115, 107] ++ nameV nm ++ tkn [44] ++ nameV al ++ tkn [61] ++ es.getD 0 [] ++ tkn [46] ++ nameV ca ++ argsV (es.drop 3) ++ tkn [118, 97, 108, 117, 101] ++ es.getD 1 [] ++ tkn [103, 97, 115] ++ es.getD 2 [] ++ tkn [59]
mutual
def ST.evs : ST → List PEv
 | .mk k nm al ca ty es bs ls => shS k nm al ca ty (es.map XT.evs) (ST.all bs) (ST.all ls)
def ST.all : List ST → List (List PEv)
 | [] => []
 | x :: r => x.evs :: ST.all r
end
theorem ST.all_map : ∀ l : List ST, ST.all l = l.map ST.evs
 | [] => rfl
 | x :: r => by rw [ST.all, ST.all_map r]; rfl
structure FT where
 nm : Key
 op : Bool
 ps : List (Key × Int)
 ty : Int
 bs : List ST
structure CTr where
 nm : Key
 sl : List (Key × Int)
 tb : List (Key × Int × Int)
 fn : List FT
def paramV (p : Key × Int) : List PEv := nameV p.1 ++ tkn [58] ++ kindV p.2
def FT.evs (f : FT) : List PEv := (if f.op then tkn [111, 112, 101, 110] else []) ++ tkn [102, 110] ++ nameV f.nm ++ tkn [40] ++ (if 8 < f.ps.length then farV else []) ++ sepV (f.ps.map paramV) ++ tkn [41] ++ tkn [45, 62] ++ kindV f.ty ++ blockV (ST.all f.bs)
def CTr.evs (c : CTr) : List PEv :=
 tkn [99, 111, 110, 116, 114, 97, 99, 116] ++ nameV c.nm ++ tkn [123] ++ (if 32 < c.sl.length + c.tb.length ∨ 32 < c.fn.length then farV else []) ++
 (c.sl.map fun p => tkn [115, 108, 111, 116] ++ paramV p ++ tkn [59]).flatten ++ (c.tb.map fun t => tkn [109, 97, 112] ++ nameV t.1 ++ tkn [58] ++ kindV t.2.1 ++ tkn [45, 62] ++ kindV t.2.2 ++ tkn [59]).flatten ++ (c.fn.map FT.evs).flatten ++ tkn [125]
def sayK (t s : Key) : Key := (if t = [] then [] else t ++ [32]) ++ s
structure PS where
 tx : Key
 lv : Int
 mx : Int
 fr : Bool
 od : Bool
def PS.step (p : PS) : PEv → PS
 | .tok s => { p with tx := sayK p.tx s }
 | .up => { p with lv := p.lv + 1, mx := max p.mx (p.lv + 1) }
 | .down => { p with lv := p.lv - 1 }
 | .far => { p with fr := true }
 | .odd => { p with od := true }
def PS.run (p : PS) (l : List PEv) : PS := l.foldl PS.step p
def PS.zero : PS := ⟨[], 0, 0, false, false⟩
theorem PS.run_app (p : PS) (l m : List PEv) : p.run (l ++ m) = (p.run l).run m := List.foldl_append ..
theorem PS.run_nil (p : PS) : p.run [] = p := rfl
theorem PS.run_cons (p : PS) (e : PEv) (l : List PEv) : p.run (e :: l) = (p.step e).run l := rfl
def endP (p : PS) : Key × Int := if p.od then ([], 2) else if p.fr || decide (2048 < p.tx.length) then ([], 3) else if 32 < p.mx then ([], 7) else (p.tx, 0)
def TxOk (t p : Key) : Prop := t = p ∨ (2048 < t.length ∧ 2048 < p.length)
def sayW (t s : Key) : Key := if 2048 < t.length then t else sayK t s
theorem sayK_ge (t s : Key) : t.length ≤ (sayK t s).length := by
 unfold sayK
 split
 ·rename_i h; subst h; simp
 ·simp only [List.length_append]; omega
theorem TxOk.say {t p : Key} (h : TxOk t p) (s : Key) : TxOk (sayW t s) (sayK p s) := by
 unfold sayW;have g := sayK_ge p s;rcases h with rfl | ⟨h1, h2⟩
 ·by_cases q : 2048 < t.length
  ·rw [if_pos q]; exact .inr ⟨q, by omega⟩
  ·rw [if_neg q]; exact .inl rfl
 ·rw [if_pos h1]; exact .inr ⟨h1, by omega⟩
theorem TxOk.fits {t p : Key} (h : TxOk t p) : decide (2048 < t.length) = decide (2048 < p.length) ∧ (¬ 2048 < p.length → t = p) := by
 rcases h with rfl | ⟨h1, h2⟩
 ·exact ⟨rfl, fun _ => rfl⟩
 ·exact ⟨by rw [decide_eq_true h1, decide_eq_true h2], fun q => absurd h2 q⟩
theorem far_run : ∀ (l : List PEv) (p : PS), ({ p with fr := true } : PS).run l = { p.run l with fr := true }
 | [], p => rfl
 | e :: l, p => by
  rw [PS.run_cons, PS.run_cons];have h := far_run l (p.step e);rw [← h];cases e <;> rfl
theorem far_late (p : PS) (l : List PEv) : p.run (farV ++ l) = p.run (l ++ farV) := by
 rw [PS.run_app, PS.run_app];exact far_run l p
theorem far_if (c : Prop) [Decidable c] (p : PS) (l : List PEv) : p.run ((if c then farV else []) ++ l) = p.run (l ++ (if c then farV else [])) := by
 split
 ·exact far_late p l
 ·rw [List.append_nil]; rfl
theorem wp_append_run {P : Program} {w : World} {o : Oper} {a : Act} {K : Act → World → Prop} {Q : Exit → Act → World → Prop} (s x : Operand) (t : TypeId) (ho : o.op = .call { callee := .builtin .append, args := #[s, x], argTypes := #[t, t] })
  (v1 v2 v : Value) (w' : World) (hs : a.eval s = v1) (hx : a.eval x = v2) (hr : (Builtin.append_ #[t, t] o.type #[v1, v2]).run P w = .ok v w') (h : K (a.put o.dst v) w') : o.wp P a w K Q := by
 unfold Oper.wp execOp;simp only [ho, resolve, invoke, builtin, Sem.run_bind, Sem.run_pure, Result.andThen_ok, List.map_toArray, List.map_cons, List.map_nil, hs, hx, hr];exact h
theorem wpList_append_run {P : Program} {w : World} {ops : Array Oper} {rest : List Oper} {o : Oper} {a : Act} {Q : Exit → Act → World → Prop} (hgd : o.guard = none) (s x : Operand) (t : TypeId) (ho : o.op = .call { callee := .builtin .append, args := #[s, x], argTypes := #[t, t] })
  (v1 v2 v : Value) (w' : World) (hs : a.eval s = v1) (hx : a.eval x = v2) (hr : (Builtin.append_ #[t, t] o.type #[v1, v2]).run P w = .ok v w') (h : wpList P ops Q rest (a.put o.dst v) w') : wpList P ops Q (o :: rest) a w :=
 wpList_plain hgd fun _ hK => wp_append_run s x t ho v1 v2 v w' hs hx hr (hK _ _ h)
theorem slice_shape {w : World} {lo : Nat} {e : TypeId} {sz n : Nat} {v : Value} {xs : List Value} (h : w.ownsRow lo e sz v n xs) : ∃ la lc, v = .slice la n lc := by
 rcases h.2 with ⟨rfl, rfl⟩ | ⟨g, cap, cur, rfl, _⟩
 ·exact ⟨none, 0, rfl⟩
 ·exact ⟨_, _, rfl⟩
section
variable {P : Program} {md : Region.Mode} {ops : Array Oper} {Q : Exit → Act → World → Prop} {S : World → Prop}
theorem tk (i : Nat) {oi : Oper} {v : Value} {fuel : Nat} {listed : Array Bool} {a a' : Act} {w : World} (h : wpAnyH P md ops Q S fuel (listed.setIfInBounds i true) a' w)
  (hi : ops[i]? = some oi := by exact rfl) (hs : Region.noSelect ops = true := by kernel_rfl) (hf : Region.free md ops listed i = true := by kernel_rfl) (hr : (Region.ready md ops listed).contains i = true := by kernel_rfl)
  (hQ : ∀ c a w, Q (.panic c) (a.put oi.dst v) w → Q (.panic c) a w := by exact fun _ _ _ h => h) (hw : Region.wanted oi (yielded ops a.tmps) = true := by kernel_rfl)
  (hy : ∀ w, S w → (execOp a.eval oi).run P w = .ok (.value v) w := by intro w hSw; (repeat (have y := And.left hSw; replace hSw := And.right hSw)); go_simp; try (with_reducible rfl))
  (hS : S w := by assumption) (ha : a.put oi.dst v = a' := by simp only [Act.put, List.setIfInBounds_toArray, List.set_cons_zero, List.set_cons_succ, List.getElem_toArray, List.getElem_cons_zero, List.getElem_cons_succ]; try rfl) : wpAnyH P md ops Q S (fuel + 1) listed a w :=
 wpAnyH_take hi hs hf hr hQ (Or.inl ⟨hw, hy⟩) hS (ha ▸ h)
end
def lk : Nat → List (Nat × Value) → Option Value
 | _, [] => none
 | i, (j, v) :: r => bif Nat.beq i j then some v else lk i r
def Fm (N : Nat) (L : List (Nat × Value)) (a : Act) : Prop := a.tmps.size = N ∧ a.defers = [] ∧ ∀ i v, lk i L = some v → a.eval (.tmp i) = v
def opv (L : List (Nat × Value)) : Operand → Option Value
 | .tmp i => lk i L
 | .const v => some v
 | .global g => some (.pointer (some ⟨g, 0, none⟩))
 | .func f => some (.func (.func f) #[] #[])
def opvs (L : List (Nat × Value)) : List Operand → Option (List Value)
 | [] => some []
 | x :: r => match opv L x, opvs L r with
  | some v, some vs => some (v :: vs)
  | _, _ => none
section
variable {P : Program} {ops : Array Oper} {Q : Exit → Act → World → Prop} {a : Act} {w w' : World} {rest : List Oper} {o : Oper} {N : Nat} {L : List (Nat × Value)}
theorem Fm.ev (F : Fm N L a) {x : Operand} {v : Value} (h : opv L x = some v) : a.eval x = v := by
 cases x with
 | tmp i => exact F.2.2 i v h
 | const u => injection h
 | global g => injection h
 | func f => injection h
theorem Fm.evs (F : Fm N L a) : ∀ {xs : List Operand} {vs : List Value}, opvs L xs = some vs → xs.map a.eval = vs
 | [], vs, h => by simpa [opvs] using h
 | x :: r, vs, h => by
  unfold opvs at h
  cases h1 : opv L x with
  | none => simp [h1] at h
  | some v =>
   cases h2 : opvs L r with
   | none => simp [h1, h2] at h
   | some us =>
    rw [h1, h2] at h;injection h with h
    subst h;rw [List.map_cons, F.ev h1, F.evs h2]
theorem Fm.put (F : Fm N L a) {i : Nat} {v : Value} (hi : Nat.blt i N = true) : Fm N ((i, v) :: L) (a.put (some i) v) := by
 have hi : i < N := by simpa [Nat.blt_eq] using hi
 refine ⟨by rw [size_put]; exact F.1, F.2.1, fun j u h => ?_⟩;unfold lk at h
 by_cases hj : j = i
 ·subst hj;rw [Nat.beq_refl] at h;injection h with h
  subst h;exact eval_put_self (by rw [F.1]; exact hi)
 ·have : Nat.beq j i = false := by
   cases hb : Nat.beq j i with
   | false => rfl
   | true => exact absurd (Nat.eq_of_beq_eq_true hb) hj
  rw [this] at h;rw [eval_put (fun e => hj e.symm)];exact F.2.2 j u h
theorem Fm.sub {L' : List (Nat × Value)} (F : Fm N L a) (h : ∀ i v, lk i L' = some v → lk i L = some v) : Fm N L' a := ⟨F.1, F.2.1, fun i v q => F.2.2 i v (h i v q)⟩
def keepL (L : List (Nat × Value)) : List Nat → Option (List (Nat × Value))
 | [] => some []
 | i :: r => match lk i L, keepL L r with
  | some v, some m => some ((i, v) :: m)
  | _, _ => none
theorem keepL_sub {L : List (Nat × Value)} : ∀ {is : List Nat} {L' : List (Nat × Value)}, keepL L is = some L' → ∀ i v, lk i L' = some v → lk i L = some v
 | [], L', h, i, v, q => by simp [keepL] at h; subst h; cases q
 | j :: r, L', h, i, v, q => by
  unfold keepL at h
  cases h1 : lk j L with
  | none => simp [h1] at h
  | some u =>
   cases h2 : keepL L r with
   | none => simp [h1, h2] at h
   | some m =>
    rw [h1, h2] at h;injection h with h
    subst h;unfold lk at q
    by_cases hj : i = j
    ·subst hj;rw [Nat.beq_refl] at q;injection q with q
     subst q;exact h1
    ·have : Nat.beq i j = false := by
      cases hb : Nat.beq i j with
      | false => rfl
      | true => exact absurd (Nat.eq_of_beq_eq_true hb) hj
     rw [this] at q;exact keepL_sub h2 i v q
theorem Fm.keep {L' : List (Nat × Value)} (F : Fm N L a) (is : List Nat) (h : keepL L is = some L') : Fm N L' a := F.sub (keepL_sub h)
theorem sw_val (F : Fm N L a) {i : Nat} {v : Value} (hd : o.dst = some i) (hg : o.guard = none) (hi : Nat.blt i N = true) (hr : (execOp a.eval o).run P w = .ok (.value v) w') (K : ∀ a', Fm N ((i, v) :: L) a' → wpList P ops Q rest a' w') : wpList P ops Q (o :: rest) a w :=
 ol_val hg hr (by rw [hd]; exact K _ (F.put hi))
theorem sw_move (F : Fm N L a) {i : Nat} {x : Operand} {v : Value} (h : Is o (some i) (.move x)) (hv : opv L x = some v) (hi : Nat.blt i N = true) (K : ∀ a', Fm N ((i, v) :: L) a' → wpList P ops Q rest a' w) : wpList P ops Q (o :: rest) a w :=
 ol_move h.2.2 (.inl h.2.1) (by rw [h.1, F.ev hv]; exact K _ (F.put hi))
theorem sw_asg (F : Fm N L a) {i : Nat} {x : Operand} {v : Value} (h : Is o (some i) (.assign x)) (hv : opv L x = some v) (hi : Nat.blt i N = true) (K : ∀ a', Fm N ((i, v) :: L) a' → wpList P ops Q rest a' w) : wpList P ops Q (o :: rest) a w :=
 ol_move h.2.2 (.inr h.2.1) (by rw [h.1, F.ev hv]; exact K _ (F.put hi))
theorem sw_nil (F : Fm N L a) {i : Nat} {x : Operand} {p : Addr} (h : Is o (some i) (.nilCheck x)) (hv : opv L x = some (.pointer (some p))) (hi : Nat.blt i N = true) (K : ∀ a', Fm N ((i, .pointer (some p)) :: L) a' → wpList P ops Q rest a' w) : wpList P ops Q (o :: rest) a w :=
 ol_nil h.2.2 h.2.1 (F.ev hv) (by rw [h.1]; exact K _ (F.put hi))
theorem run_fldo {P : Program} {w : World} {s k n b o : Nat} (h : fldOff P s k = some n) : (Instr.fieldAt s (.pointer (some ⟨b, o, none⟩)) k).run P w = .ok (.pointer (some ⟨b, o + n, none⟩)) w := by
 unfold fldOff at h
 cases hu : P.underlying s with
 | none => rw [hu] at h; cases h
 | some d =>
  rw [hu] at h
  cases d with
  | struct fs =>
   simp only at h
   cases hf : fs[k]? with
   | none => rw [hf] at h; cases h
   | some f =>
    rw [hf] at h;simp only at h
    cases hi : P.info? f.type with
    | none => rw [hi] at h; cases h
    | some i =>
     rw [hi] at h;simp only at h
     split at h
     ·cases h
     ·rename_i hz
      injection h with h
      subst h;simp [Instr.fieldAt, run_underlying hu, hf, Instr.sureAddr, fieldPlace, sizeOf, typeInfo, hi, hz, Addr.add_lit]
  | _ => cases h
theorem sw_fld (F : Fm N L a) (n : Nat) {i s k b f m : Nat} {x : Operand} (h : Is o (some i) (.fieldAddr s x k)) (hv : opv L x = some (.pointer (some ⟨b, f, none⟩))) (hf : fldOff P s k = some n) (hm : f + n = m) (hi : Nat.blt i N = true) (K : ∀ a', Fm N ((i, .pointer (some ⟨b, m, none⟩)) :: L) a' → wpList P ops Q rest a' w) : wpList P ops Q (o :: rest) a w := by
 subst hm;exact sw_val F h.1 h.2.2 hi (by unfold execOp; rw [h.2.1]; simp only [F.ev hv]; simp [Sem.run_bind, run_fldo hf]) K
theorem sw_build (F : Fm N L a) {i : Nat} {t : TypeId} {ps : Array (Nat × Operand)} (vs : List Value) (Z : List Value) (h : Is o (some i) (.build t ps)) (hv : opvs L (ps.toList.map (·.2)) = some vs) (hb : P.built t ((ps.toList.map (·.1)).zip vs) = some Z.toArray) (hi : Nat.blt i N = true) (K : ∀ a', Fm N ((i, .agg Z.toArray) :: L) a' → wpList P ops Q rest a' w) : wpList P ops Q (o :: rest) a w := by
 have e := F.evs hv
 have e2 : (ps.map fun q => (q.1, a.eval q.2)).toList = (ps.toList.map (·.1)).zip vs := by
  rw [Array.toList_map, ← e, List.map_map];generalize ps.toList = l
  induction l with
  | nil => rfl
  | cons q r ih => simp only [List.map_cons, List.zip_cons_cons, ih]; rfl
 exact ol_build h.2.2 h.2.1 (by rw [e2]; exact hb) (by rw [h.1]; exact K _ (F.put hi))
theorem sw_len (F : Fm N L a) {i : Nat} {x : Operand} {t e : TypeId} {la : Option Addr} {n c : Nat} (h : Is o (some i) (.call { callee := .builtin .len, args := #[x], argTypes := #[t] })) (hv : opv L x = some (.slice la n c)) (hu : P.underlying t = some (.slice e)) (hi : Nat.blt i N = true) (K : ∀ a', Fm N ((i, .int .i64 n) :: L) a' → wpList P ops Q rest a' w) : wpList P ops Q (o :: rest) a w :=
 ol_len h.2.2 h.2.1 (F.ev hv) hu (by rw [h.1]; exact K _ (F.put hi))
theorem sw_on (F : Fm N L a) (gi : Nat) {gb : Bool} {og : Oper} {t : Nat} {c : Bool} (hg : o.guard = some (gi, gb)) (ho : ops[gi]? = some og) (hd : og.dst = some t) (hv : lk t L = some (.bool c)) (hc : (c == gb) = true) (h : wpList P ops Q ({ o with guard := none } :: rest) a w) : wpList P ops Q (o :: rest) a w := by
 have e := F.2.2 t _ hv
 have hw : Region.wanted o (yielded ops a.tmps) = true := by
  have hcb : c = gb := by simpa using hc
  unfold Region.wanted;rw [hg];simp only [yielded, ho, hd, Option.bind_some]
  have : a.tmps[t]? = some (.bool c) := by
   have e : a.tmps.getD t undef = .bool c := e;rw [Array.getD_eq_getD_getElem?] at e
   cases hq : a.tmps[t]? with
   | none => rw [hq] at e; cases e
   | some u => rw [hq] at e; have e : u = .bool c := e; rw [e]
  rw [this];subst hcb;cases c <;> rfl
 have hw2 : ∀ x, Region.wanted { o with guard := none } x = true := fun x => by simp [Region.wanted]
 unfold wpList at h ⊢;rw [if_pos hw];rw [if_pos (hw2 _)] at h;exact h
theorem sw_off (F : Fm N L a) (gi : Nat) {i : Nat} {gb : Bool} {og : Oper} {t : Nat} {c : Bool} (hg : o.guard = some (gi, gb)) (ho : ops[gi]? = some og) (hd : og.dst = some t) (hv : lk t L = some (.bool c)) (hc : (c == gb) = false) (hi : o.dst = some i) (hb : Nat.blt i N = true) (K : ∀ a', Fm N ((i, undef) :: L) a' → wpList P ops Q rest a' w) : wpList P ops Q (o :: rest) a w := by
 have e := F.2.2 t _ hv
 have hw : Region.wanted o (yielded ops a.tmps) = false := by
  have hcb : c ≠ gb := by simpa using hc
  unfold Region.wanted;rw [hg];simp only [yielded, ho, hd, Option.bind_some]
  have : a.tmps[t]? = some (.bool c) := by
   have e : a.tmps.getD t undef = .bool c := e;rw [Array.getD_eq_getD_getElem?] at e
   cases hq : a.tmps[t]? with
   | none => rw [hq] at e; cases e
   | some u => rw [hq] at e; have e : u = .bool c := e; rw [e]
  rw [this];cases c <;> cases gb <;> first | rfl | exact absurd rfl hcb
 unfold wpList;rw [if_neg (by rw [hw]; simp), hi];exact K _ (F.put hb)
theorem sw_offU (F : Fm N L a) (gi : Nat) {i : Nat} {gb : Bool} {og : Oper} {t : Nat} (hg : o.guard = some (gi, gb)) (ho : ops[gi]? = some og) (hd : og.dst = some t) (hv : lk t L = some undef) (hi : o.dst = some i) (hb : Nat.blt i N = true) (K : ∀ a', Fm N ((i, undef) :: L) a' → wpList P ops Q rest a' w) : wpList P ops Q (o :: rest) a w := by
 have e := F.2.2 t _ hv
 have hw : Region.wanted o (yielded ops a.tmps) = false := by
  unfold Region.wanted;rw [hg];simp only [yielded, ho, hd, Option.bind_some];have e : a.tmps.getD t undef = undef := e;rw [Array.getD_eq_getD_getElem?] at e
  cases hq : a.tmps[t]? with
  | none => cases gb <;> rfl
  | some u =>
   rw [hq] at e;have e : u = undef := e;rw [e];cases gb <;> rfl
 unfold wpList;rw [if_neg (by rw [hw]; simp), hi];exact K _ (F.put hb)
theorem sw_pickT (F : Fm N L a) {i : Nat} {c x y : Operand} {v : Value} (h : Is o (some i) (.pick c x y)) (hc : opv L c = some (.bool true)) (hv : opv L x = some v) (hi : Nat.blt i N = true) (K : ∀ a', Fm N ((i, v) :: L) a' → wpList P ops Q rest a' w) : wpList P ops Q (o :: rest) a w :=
 sw_val F h.1 h.2.2 hi (by unfold execOp; rw [h.2.1]; simp only [F.ev hc, F.ev hv]; rfl) K
theorem sw_pickF (F : Fm N L a) {i : Nat} {c x y : Operand} {v : Value} (h : Is o (some i) (.pick c x y)) (hc : opv L c = some (.bool false)) (hv : opv L y = some v) (hi : Nat.blt i N = true) (K : ∀ a', Fm N ((i, v) :: L) a' → wpList P ops Q rest a' w) : wpList P ops Q (o :: rest) a w :=
 sw_val F h.1 h.2.2 hi (by unfold execOp; rw [h.2.1]; simp only [F.ev hc, F.ev hv]; rfl) K
theorem then_ret {next : Act → World → Prop} (h : Q .ret a w) : Exit.then next Q .ret a w := h
theorem block_ret {id : Nat} (h : Q .ret a w) : Exit.inBlock id Q .ret a w := h
theorem sw_seq {x y : Code} (h : x.wp P (Exit.then (y.wp P Q) Q) a w) : (Code.seq x y).wp P Q a w := wp_seq h
theorem sw_reg {id : Nat} (h : wpList P ops Q ops.toList a w) : (Code.region id ops false).wp P Q a w := wp_region_list h
theorem sw_end (h : Q .normal a w) : wpList P ops Q [] a w := h
theorem sw_cond (F : Fm N L a) {c : Operand} {x y : Code} {t : Bool} (hc : opv L c = some (.bool t)) (ht : t = true → x.wp P Q a w) (hf : t = false → y.wp P Q a w) : (Code.cond c x y).wp P Q a w :=
 wp_cond_split (F.ev hc) ht hf
theorem sw_true (F : Fm N L a) {c : Operand} {x y : Code} (hc : opv L c = some (.bool true)) (h : x.wp P Q a w) : (Code.cond c x y).wp P Q a w := wp_cond_true (F.ev hc) h
theorem sw_false (F : Fm N L a) {c : Operand} {x y : Code} (hc : opv L c = some (.bool false)) (h : y.wp P Q a w) : (Code.cond c x y).wp P Q a w := wp_cond_false (F.ev hc) h
end
def numL : Nat → List Value → List (Nat × Value)
 | _, [] => []
 | i, v :: r => (i, v) :: numL (i + 1) r
theorem lk_num : ∀ (vs : List Value) (k i : Nat) (v : Value), lk i (numL k vs) = some v → k ≤ i ∧ vs[i - k]? = some v
 | [], k, i, v, h => by cases h
 | u :: r, k, i, v, h => by
  unfold numL lk at h
  by_cases hj : i = k
  ·subst hj;rw [Nat.beq_refl] at h;injection h with h
   subst h;simp
  ·have : Nat.beq i k = false := by
    cases hb : Nat.beq i k with
    | false => rfl
    | true => exact absurd (Nat.eq_of_beq_eq_true hb) hj
   rw [this] at h;obtain ⟨h1, h2⟩ := lk_num r (k + 1) i v h;refine ⟨by omega, ?_⟩;rw [show i - k = (i - (k + 1)) + 1 by omega]
   simpa using h2
theorem sw_fn {P : Program} {f : FuncId} {fn : Func} {c : Code} {vs : List Value} {w : World} {R : Ending → World → Prop} (hf : P.funcs[f]? = some fn) (hb : fn.body = some c) (N : Nat) (hN : fn.ntmps = N) (hl : Nat.ble vs.length N = true) (K : ∀ a, Fm N (numL 0 vs) a → c.wp P (bodyPost P fn R) a w) : Calls P f vs.toArray w R := by
 have hl : vs.length ≤ N := by simpa [Nat.ble_eq] using hl
 refine calls_of_wp hf hb (K _ ⟨by simp; omega, rfl, fun i v h => ?_⟩);obtain ⟨_, h2⟩ := lk_num vs 0 i v h;simp only [Nat.sub_zero] at h2;have hi := (List.getElem?_eq_some_iff.1 h2).1;simp only [Act.eval, Array.getD_eq_getD_getElem?];rw [Array.getElem?_append_left (by simpa using hi)];simp [h2]
end Go.Proofs.YthhpkjmhcolgfaaGreatDoor
