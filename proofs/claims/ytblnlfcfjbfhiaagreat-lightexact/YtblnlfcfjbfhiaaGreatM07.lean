/- Memory: a variable that a walk writes into, a row of bytes that it appends to, and all the rest as it was. -/
import Derived.Test.YtblnlfcfjbfhiaaGreatM05
import Derived.Lib.AppendStr
import Derived.Deep.AppendLies
import Derived.Deep.RegionLaw
import Derived.WalkSmall
import Derived.Lib.BitFns

namespace Go.Proofs.YtblnlfcfjbfhiaaGreat.W
open Go.RowKit
set_option linter.unusedVariables false

def Blk (w : World) (b : Nat) (cs : Array Value) (t : TypeId) : Prop := w.heap[b]? = some (.cells cs t (0, 0))

theorem Blk.lt {w : World} {b : Nat} {cs : Array Value} {t : TypeId} (h : Blk w b cs t) : b < w.heap.size := (Array.getElem?_eq_some_iff.1 h).1

theorem Blk.cell {w : World} {b : Nat} {cs : Array Value} {t : TypeId} (h : Blk w b cs t) (i : Nat) : w.cell? ⟨b, i, none⟩ = cs[i]? := by
  unfold Blk at h; simp [World.cell?, h]

theorem Blk.frozen {w : World} {b : Nat} {cs : Array Value} {t : TypeId} (h : Blk w b cs t) (i : Nat) : w.frozen? ⟨b, i, none⟩ = false := by
  unfold Blk at h; simp [World.frozen?, h]

theorem Blk.below {w w' : World} {B b : Nat} {cs : Array Value} {t : TypeId} (h : Blk w b cs t) (hb : Below B w w') (hlt : b < B) : Blk w' b cs t := by
  unfold Blk at *; rw [hb.block b hlt]; exact h

theorem Blk.grown {w w' : World} {row : Option Nat} {b : Nat} {cs : Array Value} {t : TypeId} (h : Blk w b cs t) (hg : w.grownBy w' row) (hne : row ≠ some b) : Blk w' b cs t := by
  have hl := h.lt
  unfold Blk at *; rw [hg.block b hl (fun e => hne e.symm)]; exact h

theorem Blk.drew {w : World} {b : Nat} {cs : Array Value} {t : TypeId} (h : Blk w b cs t) : Blk w.drew b cs t := h

theorem Blk.new (w : World) (cs : Array Value) (t : TypeId) : Blk (w.alloc (.cells cs t)) w.heap.size cs t := by
  show (w.heap.push _)[w.heap.size]? = _; simp

theorem Blk.alloc {w : World} {b : Nat} {cs : Array Value} {t : TypeId} (h : Blk w b cs t) (o : Obj) : Blk (w.alloc o) b cs t := by
  have hl := h.lt
  unfold Blk at *; rw [Below.heap_alloc _ _ _ hl]; exact h

theorem Blk.set {w : World} {b : Nat} {cs : Array Value} {t : TypeId} (h : Blk w b cs t) (i : Nat) (v : Value) : Blk (w.setCell ⟨b, i, none⟩ v) b (cs.setIfInBounds i v) t := by
  unfold Blk at *
  simp [World.setCell, Array.getElem?_modify, h]

theorem Blk.setOther {w : World} {b : Nat} {cs : Array Value} {t : TypeId} (h : Blk w b cs t) (a : Addr) (hne : b ≠ a.block) (v : Value) : Blk (w.setCell a v) b cs t := by
  unfold Blk at *; rw [Below.heap_setCell _ _ _ _ hne]; exact h


/-- Block k is not the one that is written into, and it is older, or no row of bytes. -/
def Safe (w : World) (b k : Nat) : Prop := k ≠ b ∧ k < w.heap.size ∧ (k < b ∨ ∀ cs f, w.heap[k]? ≠ some (.cells cs 5 f))

/-- All below base is as it was, and all that is safe. -/
structure Kp (base b : Nat) (w w' : World) : Prop where
  below : Below base w w'
  safe : ∀ k, Safe w b k → w'.heap[k]? = w.heap[k]?

theorem Kp.refl (base b : Nat) (w : World) : Kp base b w w := ⟨Below.refl _ _, fun _ _ => rfl⟩

theorem Safe.kp {base b k : Nat} {w w' : World} (h : Safe w b k) (hK : Kp base b w w') : Safe w' b k :=
  ⟨h.1, Nat.lt_of_lt_of_le h.2.1 hK.below.size, h.2.2.imp id fun hh cs f => by rw [hK.safe k h]; exact hh cs f⟩

theorem Kp.trans {base b : Nat} {w w1 w2 : World} (h : Kp base b w w1) (k : Kp base b w1 w2) : Kp base b w w2 :=
  ⟨h.below.trans k.below, fun j hj => (k.safe j (hj.kp h)).trans (h.safe j hj)⟩

theorem Kp.of_below {base b : Nat} {w w' : World} (h : Below w.heap.size w w') (hb : base ≤ w.heap.size) : Kp base b w w' :=
  ⟨h.mono hb, fun k hk => h.block k hk.2.1⟩

theorem Kp.size {base b : Nat} {w w' : World} (h : Kp base b w w') : w.heap.size ≤ w'.heap.size := h.below.size

theorem Kp.set {base b : Nat} {w : World} (hb : base ≤ b) (i : Nat) (v : Value) : Kp base b w (w.setCell ⟨b, i, none⟩ v) :=
  ⟨(Below.refl _ _).setCell hb _, fun k hk => Below.heap_setCell _ _ _ _ hk.1⟩

theorem Kp.of_grown {base b : Nat} {w w' : World} {v : Value} {n : Nat} {xs : List Value} (ho : w.ownsRow b 5 1 v n xs) (hg : w.grownBy w' v.ownBlock) (hB : base ≤ w.heap.size) (hbb : base ≤ b) : Kp base b w w' := by
  have key : ∀ k, v.ownBlock = some k → b ≤ k ∧ ∃ cs, w.heap[k]? = some (.cells cs 5 (0, 0)) := by
    intro k e
    rcases ho.2 with ⟨rfl, _⟩ | ⟨g, cap, cur, rfl, h1, h2, _⟩
    · simp [Value.ownBlock] at e
    · simp [Value.ownBlock] at e
      subst e
      exact ⟨h1, cur, h2⟩
  refine ⟨(Below.refl _ _).grown hg hB (fun k e => Nat.le_trans hbb (key k e).1), fun k hk => hg.block k hk.2.1 (fun e => ?_)⟩
  obtain ⟨hge, cs, h⟩ := key k e.symm
  rcases hk.2.2 with h2 | h2
  · omega
  · exact h2 _ _ h

theorem Blk.safe {w : World} {b k : Nat} {cs : Array Value} {t : TypeId} (h : Blk w k cs t) (ht : t ≠ 5) (hk : k ≠ b) : Safe w b k := by
  refine ⟨hk, h.lt, .inr fun c f e => ?_⟩
  unfold Blk at h
  rw [h] at e
  simp only [Option.some.injEq, Obj.cells.injEq] at e
  exact ht e.2.1

theorem Blk.kp {base b k : Nat} {w w' : World} {cs : Array Value} {t : TypeId} (h : Blk w k cs t) (hK : Kp base b w w') (hk : k ≠ b) (ht : t ≠ 5 := by decide) : Blk w' k cs t := by
  have e := hK.safe k (h.safe ht hk)
  unfold Blk at *
  rw [e]; exact h

def bcells (l : List UInt8) : List Value := l.map fun b => Value.int .u8 b.toNat

theorem bcells_str (l : List UInt8) : Lib.strCells ⟨l.toArray⟩ = bcells l := by simp [Lib.strCells, bcells]

theorem bcells_append (l m : List UInt8) : bcells (l ++ m) = bcells l ++ bcells m := by simp [bcells]

theorem bcells_length (l : List UInt8) : (bcells l).length = l.length := by simp [bcells]

/-- A pass that writes, and what it has written. -/
def PassAt (w : World) (base b : Nat) (out : List UInt8) : Prop :=
  ∃ v, Blk w b #[.bool false, v, .string ⟨#[]⟩] 90 ∧ w.ownsRow b 5 1 v out.length (bcells out) ∧ base ≤ b

theorem owns_below {w w' : World} {base : Nat} {e : TypeId} {size : Nat} {v : Value} {n : Nat} {xs : List Value} (h : w.ownsRow base e size v n xs) (hb : Below w.heap.size w w') : w'.ownsRow base e size v n xs := by
  obtain ⟨h1, h2⟩ := h
  refine ⟨h1, ?_⟩
  rcases h2 with h2 | ⟨g, cap, cur, e1, e2, e3, e4⟩
  · exact .inl h2
  · exact .inr ⟨g, cap, cur, e1, e2, by rw [hb.block g (Array.getElem?_eq_some_iff.1 e3).1]; exact e3, e4⟩

theorem PassAt.below {w w' : World} {base b : Nat} {out : List UInt8} (h : PassAt w base b out) (hb : Below w.heap.size w w') : PassAt w' base b out := by
  obtain ⟨v, h1, h2, h3⟩ := h
  exact ⟨v, h1.below hb h1.lt, owns_below h2 hb, h3⟩

theorem PassAt.le {w : World} {base b : Nat} {out : List UInt8} (h : PassAt w base b out) : base ≤ b ∧ b < w.heap.size := by
  obtain ⟨v, h1, h2, h3⟩ := h
  exact ⟨h3, h1.lt⟩

/-- What the answer has written so far: bytes; is something too far; may something not be. -/
def RefAt (w : World) (b : Nat) (B : List UInt8) (far odd : Bool) : Prop := Blk w b #[.string ⟨B.toArray⟩, .bool far, .bool odd] 80

/-- How a walk of a pass ends: it has written, or it has given up. -/
def Wrote (base b : Nat) (o : Option (List UInt8)) (e : Ending) (w' : World) : Prop :=
  (∃ out, o = some out ∧ e = .returned (.tuple #[]) ∧ PassAt w' base b out) ∨ (o = none ∧ e = .panicked [{ v := .iface 116 (.int .i64 3), recovered := false }])
end Go.Proofs.YtblnlfcfjbfhiaaGreat.W

namespace Go.Proofs.YtblnlfcfjbfhiaaGreat.W
open Go.RowKit
set_option linter.unusedVariables false

theorem ret_i64 {a b : Int} (h : a = b) : Ending.returned (.int .i64 a) = .returned (.int .i64 b) := by rw [h]

/-- The greatest power of two below n (of two or more). -/
def firstP (n : Nat) : Nat := 2 ^ Nat.log2 (n - 1)

theorem firstP_spec (n : Nat) (h : 2 ≤ n) : 1 ≤ firstP n ∧ firstP n < n ∧ n ≤ 2 * firstP n := by
  have h1 := Nat.log2_self_le (n := n - 1) (by omega)
  have h2 := Nat.lt_log2_self (n := n - 1)
  have h3 : 0 < 2 ^ Nat.log2 (n - 1) := Nat.pow_pos (by omega)
  rw [Nat.pow_succ] at h2
  unfold firstP
  omega

theorem firstP_of (n j : Nat) (h : 2 ≤ n) (h1 : 2 ^ j < n) (h2 : n ≤ 2 * 2 ^ j) : 2 ^ j = firstP n := by
  unfold firstP
  have e : Nat.log2 (n - 1) = j := (Nat.log2_eq_iff (by omega)).2 ⟨by omega, by rw [Nat.pow_succ]; omega⟩
  rw [e]

theorem bitLen_log2 : ∀ (x : Nat), 1 ≤ x → x < 2 ^ 64 → Lib.bitLen x = Nat.log2 x + 1 := by
  intro x
  induction x using Nat.strongRecOn with
  | ind x ih =>
    intro h1 h2
    by_cases hx : x = 1
    · subst hx; decide
    · rw [Lib.bitLen_half x (by omega) h2, ih (x / 2) (by omega) (by omega) (by omega), Nat.log2_def x, if_pos (by omega)]
      omega

theorem wadd (k a b : Nat) (hk : k ≤ 56) (ha : a ≤ 8) (hb : b = k + a) : wrap64 ((k : Int) + wrap64 (a : Int)) = (b : Int) := by
  unfold wrap64; omega

theorem wone (a : Nat) (ha : a ≤ 8) : wrap64 (a : Int) = (a : Int) := by
  unfold wrap64; omega

set_option maxRecDepth 100000 in
theorem tab_size : Lib.len8tab.size = 256 := by decide

theorem tab_get (y : Int) (h : y.toNat < Lib.len8tab.size) (h0 : 0 ≤ y) (h1 : y ≤ 255) : ((Lib.len8tab[y.toNat]'h).toNat : Int) = (Lib.bitLen y.toNat : Int) := by
  rw [← Lib.len8_of y h0 h1]
  unfold Lib.len8
  rw [getElem?_pos Lib.len8tab y.toNat h]
  rfl

theorem tab_way (k : Nat) (y : Int) (h : y.toNat < Lib.len8tab.size) (h0 : 0 ≤ y) (h1 : y ≤ 255) (hk : k ≤ 56) (b : Nat) (hb : b = k + Lib.bitLen y.toNat) :
    wrap64 ((k : Int) + wrap64 ((Lib.len8tab[y.toNat]'h).toNat : Int)) = (b : Int) := by
  rw [tab_get y h h0 h1]
  exact wadd k _ b hk (Lib.bitLen_le8' y h0 h1) hb

theorem tab_zero (y : Int) (h0 : 0 ≤ y) (h1 : y ≤ 255) : wrap64 (wrap64 (Lib.len8 y)) = (Lib.bitLen y.toNat : Int) := by
  rw [Lib.len8_of y h0 h1, wone _ (Lib.bitLen_le8' y h0 h1), wone _ (Lib.bitLen_le8' y h0 h1)]

set_option maxRecDepth 1000000 in
set_option maxHeartbeats 4000000 in
theorem len64_any (x : Int) (w : World) (h0 : 0 ≤ x) (h1 : x ≤ 1099511627775) :
    Calls Tryz.prog 116 #[.int .u64 x] w fun e w' => e = .returned (.int .i64 (Lib.bitLen x.toNat)) ∧ w = w' := by
  have hsz : (Lib.len8tab.size : Int) = 256 := by have := tab_size; omega
  have hc : x ≤ 255 ∨ (256 ≤ x ∧ x ≤ 65535) ∨ (65536 ≤ x ∧ x ≤ 16777215) ∨ (16777216 ≤ x ∧ x ≤ 4294967295) ∨ 4294967296 ≤ x := by omega
  rcases hc with hc | ⟨hc, hd⟩ | ⟨hc, hd⟩ | ⟨hc, hd⟩ | hc
  · go_enter Tryz.func116, Tryz.ntmps116
    go_wp2
    go_ret
    exact ⟨ret_i64 (tab_zero x h0 hc), rfl⟩
  · have e : (x / 256).toNat = x.toNat / 256 := by omega
    have hs := Lib.bitLen_shift8 x.toNat (by omega) (by omega)
    rw [← e] at hs
    have HS : Hid (_ = _) := hs
    clear hs
    clear e
    go_enter Tryz.func116, Tryz.ntmps116
    go_wp2
    go_ret
    exact ⟨ret_i64 (tab_way 8 (x / 256) (by have := tab_size; omega) (by omega) (by omega) (by omega) _ HS.out), rfl⟩
  · have e : (x / 65536).toNat = x.toNat / 65536 := by omega
    have hs := Lib.bitLen_shift16 x.toNat (by omega) (by omega)
    rw [← e] at hs
    have HS : Hid (_ = _) := hs
    clear hs
    have h3 : x / 65536 < 256 := by omega
    clear e
    go_enter Tryz.func116, Tryz.ntmps116
    go_wp2
    go_ret
    exact ⟨ret_i64 (tab_way 16 (x / 65536) (by have := tab_size; omega) (by omega) (by omega) (by omega) _ HS.out), rfl⟩
  · have e : (x / 65536 / 256).toNat = x.toNat / 16777216 := by omega
    have hs := Lib.bitLen_shift24 x.toNat (by omega) (by omega)
    rw [← e] at hs
    have HS : Hid (_ = _) := hs
    clear hs
    have h3 : 256 ≤ x / 65536 := by omega
    have h4 : x / 65536 / 256 ≤ 255 := by omega
    clear e
    go_enter Tryz.func116, Tryz.ntmps116
    go_wp2
    go_ret
    exact ⟨ret_i64 (tab_way 24 (x / 65536 / 256) (by have := tab_size; omega) (by omega) (by omega) (by omega) _ HS.out), rfl⟩
  · have e : (x / 4294967296).toNat = x.toNat / 4294967296 := by omega
    have hs := Lib.bitLen_shift32 x.toNat (by omega) (by omega)
    rw [← e] at hs
    have HS : Hid (_ = _) := hs
    clear hs
    have h3 : x / 4294967296 < 256 := by omega
    clear e
    go_enter Tryz.func116, Tryz.ntmps116
    go_wp2
    go_ret
    exact ⟨ret_i64 (tab_way 32 (x / 4294967296) (by have := tab_size; omega) (by omega) (by omega) (by omega) _ HS.out), rfl⟩

theorem wrap_pow (j n : Nat) (h : 2 ^ j < n) (hn : n ≤ 1099511627776) : wrap64 ((2 : Int) ^ j) = ((2 ^ j : Nat) : Int) := by
  have e : ((2 : Int) ^ j) = ((2 ^ j : Nat) : Int) := by push_cast; rfl
  rw [e]; generalize (2 : Nat) ^ j = p at h; unfold wrap64; omega

theorem blen_any (x : Int) (w : World) (h0 : 0 ≤ x) (h1 : x ≤ 1099511627775) :
    Calls Tryz.prog 112 #[.int .u64 x] w fun e w' => e = .returned (.int .i64 (Lib.bitLen x.toNat)) ∧ w = w' := by
  go_enter Tryz.func112, Tryz.ntmps112
  go_wp2_with fail
  refine (len64_any x _ h0 h1).mono ?_
  rintro e w' ⟨rfl, rfl⟩
  go_wp2
  go_ret
  exact ⟨rfl, rfl⟩




end Go.Proofs.YtblnlfcfjbfhiaaGreat.W

namespace Go.Proofs.YtblnlfcfjbfhiaaGreat.W
open Go.RowKit
set_option linter.unusedVariables false

/-- How many bytes a number takes. -/
def szN (n : Int) : Nat := if n < 1 then 0 else if n < 256 then 1 else if n < 65536 then 2 else if n < 16777216 then 3 else if n < 4294967296 then 4 else 5

def numB (n : Int) : List UInt8 := UInt8.ofNat (szN n) :: be n (szN n)

def inNum (n : Int) : Bool := decide (0 ≤ n) && decide (n ≤ 1099511627775)

def numZ (n : Int) : List UInt8 := if inNum n = true then numB n else []

theorem szN_le (n : Int) : szN n ≤ 5 := by
  unfold szN
  (repeat' split) <;> omega

theorem numB_len (n : Int) : (numB n).length ≤ 6 := by have := szN_le n; simp [numB, be_len]; omega

theorem numZ_len (n : Int) : (numZ n).length ≤ 6 := by unfold numZ; split; exact numB_len n; simp

theorem szN_stop (n : Int) (k : Nat) (h0 : 0 ≤ n) (h : n ≤ 1099511627775) (h1 : n / 256 ^ k ≤ 0) (h2 : k = 0 ∨ 0 < n / 256 ^ (k - 1)) (hk : k ≤ 5) : k = szN n := by
  have e : k = 0 ∨ k = 1 ∨ k = 2 ∨ k = 3 ∨ k = 4 ∨ k = 5 := by omega
  unfold szN
  rcases e with rfl | rfl | rfl | rfl | rfl | rfl <;> simp at h1 h2 <;> (repeat' split) <;> omega

theorem str_app (l m : List UInt8) : (⟨l.toArray⟩ : ByteArray) ++ ⟨m.toArray⟩ = ⟨(l ++ m).toArray⟩ := by
  apply ByteArray.ext
  simp [ByteArray.data_append]

theorem RefAt.cells {w : World} {b : Nat} {B : List UInt8} {far odd : Bool} (h : RefAt w b B far odd) :
    w.cell? ⟨b, 0, none⟩ = some (.string ⟨B.toArray⟩) ∧ w.cell? ⟨b, 1, none⟩ = some (.bool far) ∧ w.cell? ⟨b, 2, none⟩ = some (.bool odd) ∧ w.frozen? ⟨b, 0, none⟩ = false ∧ w.frozen? ⟨b, 1, none⟩ = false ∧ w.frozen? ⟨b, 2, none⟩ = false ∧ b < w.heap.size := by
  have h0 := Blk.cell h 0
  have h1 := Blk.cell h 1
  have h2 := Blk.cell h 2
  simp only [List.getElem?_toArray, List.getElem?_cons_succ, List.getElem?_cons_zero] at h0 h1 h2
  exact ⟨h0, h1, h2, Blk.frozen h 0, Blk.frozen h 1, Blk.frozen h 2, Blk.lt h⟩

theorem RefAt.below {w w' : World} {b : Nat} {B : List UInt8} {far odd : Bool} (h : RefAt w b B far odd) (hb : Below w.heap.size w w') : RefAt w' b B far odd := Blk.below h hb (Blk.lt h)

theorem RefAt.setB {w : World} {b : Nat} {B : List UInt8} {far odd : Bool} (h : RefAt w b B far odd) (C : List UInt8) : RefAt (w.setCell ⟨b, 0, none⟩ (.string ⟨C.toArray⟩)) b C far odd := Blk.set h 0 _

theorem RefAt.setF {w : World} {b : Nat} {B : List UInt8} {far odd : Bool} (h : RefAt w b B far odd) (x : Bool) : RefAt (w.setCell ⟨b, 1, none⟩ (.bool x)) b B x odd := Blk.set h 1 _

theorem RefAt.setO {w : World} {b : Nat} {B : List UInt8} {far odd : Bool} (h : RefAt w b B far odd) (x : Bool) : RefAt (w.setCell ⟨b, 2, none⟩ (.bool x)) b B far x := Blk.set h 2 _

theorem conv_drew {P : Program} (src dst e : TypeId) (hs : P.underlying src = some (.slice e)) (he : P.underlying e = some (.int .u8)) (hd : P.underlying dst = some .string)
    (w : World) (x : Int) : (convert src dst (.slice (some ⟨w.heap.size, 0, none⟩) 1 1)).run P (w.alloc (.cells #[.int .u8 x] e)).drew = .ok (.string ⟨#[UInt8.ofNat x.toNat]⟩) (w.alloc (.cells #[.int .u8 x] e)).drew := by
  refine run_convert_bytes_arg (P := P) (w.alloc (.cells #[.int .u8 x] e)).drew src e hs he w.heap.size 0 1 1 [x] rfl (fun i hi => ?_) dst hd
  obtain rfl : i = 0 := by simpa using hi
  have h : (w.alloc (.cells #[.int .u8 x] e)).cell? ⟨w.heap.size, 0, none⟩ = some (.int .u8 x) := by simp
  exact h

set_option maxHeartbeats 800000 in
theorem rnum_any (base b : Nat) (n : Int) (B : List UInt8) (far odd : Bool) (w : World) (hb : base ≤ b) (hn : -9223372036854775808 ≤ n ∧ n ≤ 9223372036854775807) (hB : B.length ≤ 1099511627776) (h : RefAt w b B far odd) :
    Calls Tryz.prog 63 #[.pointer (some ⟨b, 0, none⟩), .int .i64 n] w fun e w' => e = .returned (.tuple #[]) ∧ RefAt w' b (B ++ numZ n) (far || !inNum n) odd ∧ Kp base b w w' := by
  obtain ⟨c0, c1, c2, f0, f1, f2, hlt⟩ := h.cells
  by_cases hin : inNum n = true
  · have hr : 0 ≤ n ∧ n ≤ 1099511627775 := by simpa [inNum] using hin
    have e1 : numZ n = numB n := if_pos hin
    rw [hin, e1, show (far || !true) = far by simp]
    clear hin e1
    have hc := conv_one (P := Tryz.prog) 88 9 5 Tryz.underlying88 Tryz.underlying5 Tryz.underlying9
    have hcd := conv_drew (P := Tryz.prog) 88 9 5 Tryz.underlying88 Tryz.underlying5 Tryz.underlying9
    go_enter Tryz.func63, Tryz.ntmps63
    go_wp2
    go_loopw [1, 4] (fun nv sv wv => ∃ (k : Nat) (m : Int) (l : List UInt8), k ≤ 5 ∧ 0 ≤ m ∧ m ≤ 1099511627775 ∧ Hid (m = n / 256 ^ k) ∧ Hid (k = 0 ∨ 0 < n / 256 ^ (k - 1)) ∧ Hid (l = be n k) ∧ l.length ≤ 8 ∧ nv = .int .i64 m ∧ sv = .string ⟨l.toArray⟩ ∧ Below w.heap.size w wv) (fun nv _ _ => (intOf nv).toNat)
    case atStart => exact ⟨0, n, [], by omega, hr.1, hr.2, by show _ = _; simp, .inl rfl, rfl, by simp, rfl, rfl, Below.refl _ _⟩
    case round =>
      obtain ⟨k, m, l, hk, hm1, hm2, Hm, Hk, Hl, hl8, rfl, rfl, hg⟩ := hrel
      have hlk : l.length = k := by rw [Hl.out, be_len]
      by_cases hpos : 0 < m
      · have hq := Int.tdiv_eq_ediv_of_nonneg (b := 256) hm1
        have hr := Int.tmod_eq_emod_of_nonneg (b := 256) hm1
        have hk5 : k < 5 := by
          rcases Nat.lt_or_ge k 5 with h5 | h5
          · exact h5
          · exfalso
            obtain rfl : k = 5 := by omega
            have := Hm.out
            simp at this
            omega
        go_wp2
        refine ⟨⟨k + 1, m / 256, byteAt m :: l, by omega, by omega, by omega, ?_, ?_, be_snoc n m k l Hm.out Hl.out, by simp; omega, rfl, ?_, hg.alloc hg.size _⟩, by simp [intOf]; omega⟩
        · show _ = _; rw [Hm.out, div_step]
        · show _ ∨ _; right; rw [Nat.add_sub_cancel, ← Hm.out]; exact hpos
        · exact congrArg Value.string (str_cons _ _)
      · have hR := h.below hg
        obtain ⟨d0, d1, d2, g0, g1, g2, hlt'⟩ := hR.cells
        have hk6 : Hid (k = szN n) := szN_stop n k hr.1 hr.2 (by rw [← Hm.out]; omega) Hk.out hk
        go_wp2
        go_region
        have es : (⟨B.toArray⟩ : ByteArray) ++ ⟨#[UInt8.ofNat k]⟩ ++ ⟨l.toArray⟩ = ⟨(B ++ numB n).toArray⟩ := by
          rw [show (⟨#[UInt8.ofNat k]⟩ : ByteArray) = ⟨[UInt8.ofNat k].toArray⟩ from rfl, str_app, str_app, Hl.out, hk6.out]
          simp [numB]
        rw [es]
        go_end0
        have hb1 : Below (wr.setCell ⟨b, 0, none⟩ (.string ⟨(B ++ numB n).toArray⟩)).heap.size (wr.setCell ⟨b, 0, none⟩ (.string ⟨(B ++ numB n).toArray⟩)) ((wr.setCell ⟨b, 0, none⟩ (.string ⟨(B ++ numB n).toArray⟩)).alloc (.cells #[.int .u8 k] 5)).drew := ((Below.refl _ _).alloc (Nat.le_refl _) _).drew
        have hbw : base ≤ w.heap.size := Nat.le_trans hb (Nat.le_of_lt hlt)
        have hbr : base ≤ wr.heap.size := Nat.le_trans hbw hg.size
        exact ⟨rfl, (hR.setB (B ++ numB n)).below hb1, ((Kp.of_below hg hbw).trans (Kp.set hb 0 _)).trans (Kp.of_below hb1 (by simpa [World.setCell] using hbr))⟩
  · have hin' : inNum n = false := by simpa using hin
    have e1 : numZ n = [] := if_neg hin
    rw [hin', e1, List.append_nil, show (far || !false) = true by simp]
    have hcase : n < 0 ∨ (0 ≤ n ∧ 1099511627775 < n) := by
      have : ¬ (0 ≤ n ∧ n ≤ 1099511627775) := by simpa [inNum] using hin'
      omega
    clear hin hin' e1
    rcases hcase with h1 | ⟨h1, h2⟩
    all_goals
      go_enter Tryz.func63, Tryz.ntmps63
      go_wp2
      refine bodyPost_ret (results_none rfl _ _ _) rfl ?_
      exact ⟨rfl, h.setF true, Kp.set hb 1 _⟩

set_option maxHeartbeats 400000 in
theorem rdig_any (base b : Nat) (d : Int) (B : List UInt8) (far odd : Bool) (w : World) (hb : base ≤ b) (hd : 0 ≤ d ∧ d ≤ 18446744073709551615) (hB : B.length ≤ 1099511627776) (h : RefAt w b B far odd) :
    Calls Tryz.prog 64 #[.pointer (some ⟨b, 0, none⟩), .int .u64 d] w fun e w' => e = .returned (.tuple #[]) ∧ RefAt w' b (B ++ be d 8) far odd ∧ Kp base b w w' := by
  have hlt := (Blk.lt h)
  have hl8 := be_len d 8
  go_enter Tryz.func64, Tryz.ntmps64
  go_wp2_with fail
  refine (reight _ _ hd).mono ?_
  rintro e w1 ⟨rfl, b1⟩
  have hR := h.below b1
  obtain ⟨c0, c1, c2, f0, f1, f2, hlt1⟩ := hR.cells
  generalize hG : be d 8 = D at *
  have HG := show Hid (_ = _) from hG
  clear hG
  go_wp2
  (try go_region)
  rw [str_app]
  go_end0
  have hbw : base ≤ w.heap.size := Nat.le_trans hb (Nat.le_of_lt hlt)
  rw [HG.out]
  exact ⟨rfl, by first | exact hR.setB _ | exact (hR.setB _).below (Below.refl _ _).drew, by first | exact (Kp.of_below b1 hbw).trans (Kp.set hb 0 _) | exact ((Kp.of_below b1 hbw).trans (Kp.set hb 0 _)).trans (Kp.of_below (Below.refl _ _).drew (by simpa [World.setCell] using Nat.le_trans hbw b1.size))⟩

set_option maxHeartbeats 400000 in
theorem rflag_any (base b : Nat) (x : Bool) (B : List UInt8) (far odd : Bool) (w : World) (hb : base ≤ b) (hB : B.length ≤ 1099511627776) (h : RefAt w b B far odd) :
    Calls Tryz.prog 78 #[.pointer (some ⟨b, 0, none⟩), .bool x] w fun e w' => e = .returned (.tuple #[]) ∧ RefAt w' b (B ++ [if x = true then 1 else 0]) far odd ∧ Kp base b w w' := by
  obtain ⟨c0, c1, c2, f0, f1, f2, hlt1⟩ := h.cells
  have hR := h
  cases x
  · go_enter Tryz.func78, Tryz.ntmps78
    go_wp2
    (try go_region)
    rw [show (⟨#[0]⟩ : ByteArray) = ⟨[0].toArray⟩ from rfl, str_app]
    go_end0
    exact ⟨rfl, by first | exact hR.setB _ | exact (hR.setB _).below (Below.refl _ _).drew, by first | exact Kp.set hb 0 _ | exact (Kp.set hb 0 _).trans (Kp.of_below (Below.refl _ _).drew (by simpa [World.setCell] using Nat.le_trans hb (Nat.le_of_lt hlt1)))⟩
  · go_enter Tryz.func78, Tryz.ntmps78
    go_wp2
    (try go_region)
    rw [show (⟨#[1]⟩ : ByteArray) = ⟨[1].toArray⟩ from rfl, str_app]
    go_end0
    exact ⟨rfl, by first | exact hR.setB _ | exact (hR.setB _).below (Below.refl _ _).drew, by first | exact Kp.set hb 0 _ | exact (Kp.set hb 0 _).trans (Kp.of_below (Below.refl _ _).drew (by simpa [World.setCell] using Nat.le_trans hb (Nat.le_of_lt hlt1)))⟩

theorem rodd_any (base b : Nat) (x : Bool) (B : List UInt8) (far odd : Bool) (w : World) (hb : base ≤ b) (h : RefAt w b B far odd) :
    Calls Tryz.prog 77 #[.pointer (some ⟨b, 0, none⟩), .bool x] w fun e w' => e = .returned (.tuple #[]) ∧ RefAt w' b B far (odd || x) ∧ Kp base b w w' := by
  obtain ⟨c0, c1, c2, f0, f1, f2, hlt1⟩ := h.cells
  cases x
  · rw [show (odd || false) = odd by simp]
    go_enter Tryz.func77, Tryz.ntmps77
    go_wp2
    go_end0
    exact ⟨rfl, h, Kp.refl _ _ _⟩
  · rw [show (odd || true) = true by simp]
    go_enter Tryz.func77, Tryz.ntmps77
    go_wp2
    go_end0
    exact ⟨rfl, h.setO true, Kp.set hb 2 _⟩

theorem rcount_any (base b : Nat) (n most : Int) (B : List UInt8) (far odd : Bool) (w : World) (hb : base ≤ b) (hn : -9223372036854775808 ≤ n ∧ n ≤ 9223372036854775807) (hB : B.length ≤ 1099511627776) (h : RefAt w b B far odd) :
    Calls Tryz.prog 79 #[.pointer (some ⟨b, 0, none⟩), .int .i64 n, .int .i64 most] w fun e w' => e = .returned (.tuple #[]) ∧ RefAt w' b (B ++ numZ n) (far || decide (most < n) || !inNum n) odd ∧ Kp base b w w' := by
  obtain ⟨c0, c1, c2, f0, f1, f2, hlt1⟩ := h.cells
  by_cases hm : most < n
  · rw [show (far || decide (most < n)) = true by simp [hm]]
    go_enter Tryz.func79, Tryz.ntmps79
    go_wp2_with fail
    refine (rnum_any base b n B true odd _ hb hn hB (h.setF true)).mono ?_
    rintro e w1 ⟨rfl, h1, k1⟩
    go_wp2
    go_end0
    exact ⟨rfl, h1, (Kp.set hb 1 _).trans k1⟩
  · rw [show (far || decide (most < n)) = far by simp [hm]]
    go_enter Tryz.func79, Tryz.ntmps79
    go_wp2_with fail
    refine (rnum_any base b n B far odd _ hb hn hB h).mono ?_
    rintro e w1 ⟨rfl, h1, k1⟩
    go_wp2
    go_end0
    exact ⟨rfl, h1, k1⟩

/-- What Put answers: bytes, an error. -/
def outB (B : List UInt8) (far odd : Bool) : List UInt8 := if far = true then [] else if odd = true then [] else B

def outE (far odd : Bool) : Int := if far = true then 3 else if odd = true then 2 else 0

theorem rout_any (b : Nat) (B : List UInt8) (far odd : Bool) (w : World) (h : RefAt w b B far odd) :
    Calls Tryz.prog 42 #[.pointer (some ⟨b, 0, none⟩)] w fun e w' => e = .returned (.tuple #[.string ⟨(outB B far odd).toArray⟩, .int .i64 (outE far odd)]) ∧ Below w.heap.size w w' := by
  obtain ⟨c0, c1, c2, f0, f1, f2, hlt1⟩ := h.cells
  cases far <;> cases odd
  all_goals
    go_enter Tryz.func42, Tryz.ntmps42
    go_wp2
    (try go_region)
    go_ret2
    exact ⟨rfl, by first | exact Below.refl _ _ | exact (Below.refl _ _).drew⟩
end Go.Proofs.YtblnlfcfjbfhiaaGreat.W
