/- The answer's Put. -/
import Derived.Test.YtcpjcjonlkgblaaM11
import Derived.Lib.AppendStr
import Derived.Deep.AppendLies
import Derived.Deep.RegionLaw
import Derived.WalkSmall
import Derived.Test.YtcpjcjonlkgblaaM00
import Derived.Lib.BitFns

namespace Go.Proofs.Ytcpjcjonlkgblaa
open Go.RowKit
set_option linter.unusedVariables false
set_option linter.unusedSimpArgs false

/-- The cells of a list of items. -/
def flat (l : List (Key × Key)) : List Value := l.flatMap fun x => [.string (str x.1), .string (str x.2)]
theorem flat_len (l : List (Key × Key)) : (flat l).length = l.length * 2 := by
  induction l with
  | nil => rfl
  | cons x r ih => simp only [flat, List.flatMap_cons, List.length_append, List.length_cons, List.length_nil] at ih ⊢; omega
theorem flat_snoc (l : List (Key × Key)) (x : Key × Key) : flat (l ++ [x]) = flat l ++ [.string (str x.1), .string (str x.2)] := by simp [flat]
theorem flat_get : ∀ (l : List (Key × Key)) (i : Nat) (x : Key × Key), l[i]? = some x → (flat l)[i * 2]? = some (.string (str x.1)) ∧ (flat l)[i * 2 + 1]? = some (.string (str x.2))
  | [], i, x, h => by simp at h
  | y :: r, 0, x, h => by simp only [List.getElem?_cons_zero, Option.some.injEq] at h; subst h; simp [flat]
  | y :: r, i + 1, x, h => by
    rw [List.getElem?_cons_succ] at h
    obtain ⟨h1, h2⟩ := flat_get r i x h
    have e1 : (i + 1) * 2 = i * 2 + 1 + 1 := by omega
    rw [e1]
    simp only [flat, List.flatMap_cons, List.cons_append, List.nil_append, List.getElem?_cons_succ] at h1 h2 ⊢
    exact ⟨h1, h2⟩

theorem infoItem : (Try.prog.info? 54).map (fun i => (i.zero, i.size, i.bytes)) = some (some (.agg #[.string ⟨#[]⟩, .string ⟨#[]⟩]), 2, 32) := by kernel_rfl

/-- A row of items of the call's own is a list of items. -/
theorem ItemsAt.of_owns {w : World} {base : Nat} {sv : Value} {m : List (Key × Key)} (h : w.ownsRow base 54 2 sv m.length (flat m)) : ∃ la cap, sv = .slice la m.length cap ∧ ItemsAt w la m := by
  rcases h.2 with ⟨e, h0⟩ | ⟨g, cap, cur, e, _, hg, hc, hcm, hs, ht⟩
  · have : m = [] := List.eq_nil_of_length_eq_zero h0
    subst this
    exact ⟨none, 0, e, .inl rfl⟩
  · refine ⟨_, cap, e, .inr ⟨g, 0, rfl, (Array.getElem?_eq_some_iff.1 hg).1, fun i x hx => ?_⟩⟩
    obtain ⟨f1, f2⟩ := flat_get m i x hx
    have hi : i < m.length := (List.getElem?_eq_some_iff.1 hx).1
    have key : ∀ j v, (flat m)[j]? = some v → w.cell? ⟨g, j, none⟩ = some v := by
      intro j v hj
      rw [← ht] at hj
      have hjl : j < m.length * 2 := by
        have := (List.getElem?_eq_some_iff.1 hj).1
        rw [List.length_take] at this
        omega
      rw [List.getElem?_take_of_lt hjl] at hj
      simp only [World.cell?, hg]
      simpa using hj
    refine ⟨?_, ?_⟩
    · rw [Nat.zero_add]; exact key _ _ f1
    · rw [Nat.zero_add]; exact key _ _ f2

/-- The answer's Put under way: m has come. -/
structure RPut (w0 : World) (W : Int) (la : Option Addr) (cap : Nat) (l m : List (Key × Key)) (sv : Value) (w : World) : Prop where
  below : Below w0.heap.size w0 w
  t : Blk w w0.heap.size #[.int .i64 W, .slice la l.length cap] 32
  r : Blk w (w0.heap.size + 1) #[.int .i64 0, .slice none 0 0] 32
  o : Blk w (w0.heap.size + 2) #[.int .i64 W, sv] 32
  own : w.ownsRow (w0.heap.size + 3) 54 2 sv m.length (flat m)
theorem RPut.next {w0 w w' : World} {W : Int} {la : Option Addr} {cap : Nat} {l m : List (Key × Key)} {sv : Value} (h : RPut w0 W la cap l m sv w) (hb : Below w.heap.size w w') : RPut w0 W la cap l m sv w' :=
  ⟨h.below.trans (hb.mono h.below.size), h.t.below hb h.t.lt, h.r.below hb h.r.lt, h.o.below hb h.o.lt, by
    obtain ⟨h1, h2⟩ := h.own
    refine ⟨h1, ?_⟩
    rcases h2 with h2 | ⟨g, cap, cur, e1, e2, e3, e4⟩
    · exact .inl h2
    · exact .inr ⟨g, cap, cur, e1, e2, by rw [hb.block g (Array.getElem?_eq_some_iff.1 e3).1]; exact e3, e4⟩⟩
/-- Behind an append, and the store of what it gave. -/
theorem RPut.appended {w0 w w2 : World} {W : Int} {la : Option Addr} {cap : Nat} {l m : List (Key × Key)} {sv : Value} {g cg : Nat} (h : RPut w0 W la cap l m sv w) (x : Key × Key)
    (hown : w2.ownsRow (w0.heap.size + 3) 54 2 (.slice (some ⟨g, 0, none⟩) (m.length + 1) cg) (m.length + 1) (flat m ++ [.string (str x.1), .string (str x.2)]))
    (hgrow : (w.alloc (.cells #[.string (str x.1), .string (str x.2)] 54)).grownBy w2 sv.ownBlock) :
    Blk w2 (w0.heap.size + 2) #[.int .i64 W, sv] 32 ∧ RPut w0 W la cap l (m ++ [x]) (.slice (some ⟨g, 0, none⟩) (m.length + 1) cg) (w2.setCell ⟨w0.heap.size + 2, 1, none⟩ (.slice (some ⟨g, 0, none⟩) (m.length + 1) cg)) := by
  have hne : ∀ k, sv.ownBlock = some k → w0.heap.size + 3 ≤ k := fun k e => (h.own.lt k e).1
  have b2 : Below w0.heap.size w0 w2 := (h.below.alloc h.below.size _).grown hgrow (by have := h.below.size; simp; omega) (fun k e => by have := hne k e; omega)
  have t2 := (h.t.alloc (.cells #[.string (str x.1), .string (str x.2)] 54)).grown hgrow (fun e => by have := hne _ e; omega)
  have r2 := (h.r.alloc (.cells #[.string (str x.1), .string (str x.2)] 54)).grown hgrow (fun e => by have := hne _ e; omega)
  have o2 := (h.o.alloc (.cells #[.string (str x.1), .string (str x.2)] 54)).grown hgrow (fun e => by have := hne _ e; omega)
  refine ⟨o2, b2.setCell (p := ⟨w0.heap.size + 2, 1, none⟩) (by simp) _, t2.setOther _ (by show _ ≠ w0.heap.size + 2; omega) _, r2.setOther _ (by show _ ≠ w0.heap.size + 2; omega) _, o2.set 1 _, ?_⟩
  have := ownsRow_setCell_below hown (a := ⟨w0.heap.size + 2, 1, none⟩) (by simp) (.slice (some ⟨g, 0, none⟩) (m.length + 1) cg)
  rw [flat_snoc, List.length_append]
  exact this
end Go.Proofs.Ytcpjcjonlkgblaa

namespace Go.Proofs.Ytcpjcjonlkgblaa.W
open Go.RowKit
set_option linter.unusedVariables false

def Blk (w : World) (b : Nat) (cs : Array Value) (t : TypeId) : Prop := w.heap[b]? = some (.cells cs t (0, 0))

theorem Blk.lt {w : World} {b : Nat} {cs : Array Value} {t : TypeId} (h : Blk w b cs t) : b < w.heap.size := (Array.getElem?_eq_some_iff.1 h).1

theorem Blk.cell {w : World} {b : Nat} {cs : Array Value} {t : TypeId} (h : Blk w b cs t) (i : Nat) : w.cell? ⟨b, i, none⟩ = cs[i]? := by
  unfold Blk at h; simp [World.cell?, h]

theorem Blk.frozen {w : World} {b : Nat} {cs : Array Value} {t : TypeId} (h : Blk w b cs t) (i : Nat) : w.frozen? ⟨b, i, none⟩ = false := by
  unfold Blk at h; simp [World.frozen?, h]

theorem Blk.below {w w' : World} {B b : Nat} {cs : Array Value} {t : TypeId} (h : Blk w b cs t) (hb : Below B w w') (hlt : b < B) : Blk w' b cs t := by
  unfold Blk at *; rw [hb.block b hlt]; exact h

theorem Blk.grown {w w' : World} {row : Option Nat} {b : Nat} {cs : Array Value} {t : TypeId} (h : Blk w b cs t) (hg : w.grownBy w' row) (hne : row ≠ some b) : Blk w' b cs t := by
  have hl := h.lt
  unfold Blk at *; rw [hg.block b hl (fun e => hne e.symm)]; exact h

theorem Blk.drew {w : World} {b : Nat} {cs : Array Value} {t : TypeId} (h : Blk w b cs t) : Blk w.drew b cs t := h

theorem Blk.new (w : World) (cs : Array Value) (t : TypeId) : Blk (w.alloc (.cells cs t)) w.heap.size cs t := by
  show (w.heap.push _)[w.heap.size]? = _; simp

theorem Blk.alloc {w : World} {b : Nat} {cs : Array Value} {t : TypeId} (h : Blk w b cs t) (o : Obj) : Blk (w.alloc o) b cs t := by
  have hl := h.lt
  unfold Blk at *; rw [Below.heap_alloc _ _ _ hl]; exact h

theorem Blk.set {w : World} {b : Nat} {cs : Array Value} {t : TypeId} (h : Blk w b cs t) (i : Nat) (v : Value) : Blk (w.setCell ⟨b, i, none⟩ v) b (cs.setIfInBounds i v) t := by
  unfold Blk at *
  simp [World.setCell, Array.getElem?_modify, h]

theorem Blk.setOther {w : World} {b : Nat} {cs : Array Value} {t : TypeId} (h : Blk w b cs t) (a : Addr) (hne : b ≠ a.block) (v : Value) : Blk (w.setCell a v) b cs t := by
  unfold Blk at *; rw [Below.heap_setCell _ _ _ _ hne]; exact h


/-- Block k is not the one that is written into, and it is older, or no row of bytes. -/
def Safe (w : World) (b k : Nat) : Prop := k ≠ b ∧ k < w.heap.size ∧ (k < b ∨ ∀ cs f, w.heap[k]? ≠ some (.cells cs 5 f))

/-- All below base is as it was, and all that is safe. -/
structure Kp (base b : Nat) (w w' : World) : Prop where
  below : Below base w w'
  safe : ∀ k, Safe w b k → w'.heap[k]? = w.heap[k]?

theorem Kp.refl (base b : Nat) (w : World) : Kp base b w w := ⟨Below.refl _ _, fun _ _ => rfl⟩

theorem Safe.kp {base b k : Nat} {w w' : World} (h : Safe w b k) (hK : Kp base b w w') : Safe w' b k :=
  ⟨h.1, Nat.lt_of_lt_of_le h.2.1 hK.below.size, h.2.2.imp id fun hh cs f => by rw [hK.safe k h]; exact hh cs f⟩

theorem Kp.trans {base b : Nat} {w w1 w2 : World} (h : Kp base b w w1) (k : Kp base b w1 w2) : Kp base b w w2 :=
  ⟨h.below.trans k.below, fun j hj => (k.safe j (hj.kp h)).trans (h.safe j hj)⟩

theorem Kp.of_below {base b : Nat} {w w' : World} (h : Below w.heap.size w w') (hb : base ≤ w.heap.size) : Kp base b w w' :=
  ⟨h.mono hb, fun k hk => h.block k hk.2.1⟩

theorem Kp.size {base b : Nat} {w w' : World} (h : Kp base b w w') : w.heap.size ≤ w'.heap.size := h.below.size

theorem Kp.set {base b : Nat} {w : World} (hb : base ≤ b) (i : Nat) (v : Value) : Kp base b w (w.setCell ⟨b, i, none⟩ v) :=
  ⟨(Below.refl _ _).setCell hb _, fun k hk => Below.heap_setCell _ _ _ _ hk.1⟩

theorem Kp.of_grown {base b : Nat} {w w' : World} {v : Value} {n : Nat} {xs : List Value} (ho : w.ownsRow b 5 1 v n xs) (hg : w.grownBy w' v.ownBlock) (hB : base ≤ w.heap.size) (hbb : base ≤ b) : Kp base b w w' := by
  have key : ∀ k, v.ownBlock = some k → b ≤ k ∧ ∃ cs, w.heap[k]? = some (.cells cs 5 (0, 0)) := by
    intro k e
    rcases ho.2 with ⟨rfl, _⟩ | ⟨g, cap, cur, rfl, h1, h2, _⟩
    · simp [Value.ownBlock] at e
    · simp [Value.ownBlock] at e
      subst e
      exact ⟨h1, cur, h2⟩
  refine ⟨(Below.refl _ _).grown hg hB (fun k e => Nat.le_trans hbb (key k e).1), fun k hk => hg.block k hk.2.1 (fun e => ?_)⟩
  obtain ⟨hge, cs, h⟩ := key k e.symm
  rcases hk.2.2 with h2 | h2
  · omega
  · exact h2 _ _ h

theorem Blk.safe {w : World} {b k : Nat} {cs : Array Value} {t : TypeId} (h : Blk w k cs t) (ht : t ≠ 5) (hk : k ≠ b) : Safe w b k := by
  refine ⟨hk, h.lt, .inr fun c f e => ?_⟩
  unfold Blk at h
  rw [h] at e
  simp only [Option.some.injEq, Obj.cells.injEq] at e
  exact ht e.2.1

theorem Blk.kp {base b k : Nat} {w w' : World} {cs : Array Value} {t : TypeId} (h : Blk w k cs t) (hK : Kp base b w w') (hk : k ≠ b) (ht : t ≠ 5 := by decide) : Blk w' k cs t := by
  have e := hK.safe k (h.safe ht hk)
  unfold Blk at *
  rw [e]; exact h

def bcells (l : List UInt8) : List Value := l.map fun b => Value.int .u8 b.toNat

theorem bcells_str (l : List UInt8) : Lib.strCells ⟨l.toArray⟩ = bcells l := by simp [Lib.strCells, bcells]

theorem bcells_append (l m : List UInt8) : bcells (l ++ m) = bcells l ++ bcells m := by simp [bcells]

theorem bcells_length (l : List UInt8) : (bcells l).length = l.length := by simp [bcells]

/-- A pass that writes, and what it has written. -/
def PassAt (w : World) (base b : Nat) (out : List UInt8) : Prop :=
  ∃ v, Blk w b #[.bool false, v, .string ⟨#[]⟩] 126 ∧ w.ownsRow b 5 1 v out.length (bcells out) ∧ base ≤ b

theorem owns_below {w w' : World} {base : Nat} {e : TypeId} {size : Nat} {v : Value} {n : Nat} {xs : List Value} (h : w.ownsRow base e size v n xs) (hb : Below w.heap.size w w') : w'.ownsRow base e size v n xs := by
  obtain ⟨h1, h2⟩ := h
  refine ⟨h1, ?_⟩
  rcases h2 with h2 | ⟨g, cap, cur, e1, e2, e3, e4⟩
  · exact .inl h2
  · exact .inr ⟨g, cap, cur, e1, e2, by rw [hb.block g (Array.getElem?_eq_some_iff.1 e3).1]; exact e3, e4⟩

theorem PassAt.below {w w' : World} {base b : Nat} {out : List UInt8} (h : PassAt w base b out) (hb : Below w.heap.size w w') : PassAt w' base b out := by
  obtain ⟨v, h1, h2, h3⟩ := h
  exact ⟨v, h1.below hb h1.lt, owns_below h2 hb, h3⟩

theorem PassAt.le {w : World} {base b : Nat} {out : List UInt8} (h : PassAt w base b out) : base ≤ b ∧ b < w.heap.size := by
  obtain ⟨v, h1, h2, h3⟩ := h
  exact ⟨h3, h1.lt⟩

/-- What the answer has written so far: bytes; is something too far; may something not be. -/
def RefAt (w : World) (b : Nat) (B : List UInt8) (far odd : Bool) : Prop := Blk w b #[.string ⟨B.toArray⟩, .bool far, .bool odd] 109

/-- How a walk of a pass ends: it has written, or it has given up. -/
def Wrote (base b : Nat) (o : Option (List UInt8)) (e : Ending) (w' : World) : Prop :=
  (∃ out, o = some out ∧ e = .returned (.tuple #[]) ∧ PassAt w' base b out) ∨ (o = none ∧ e = .panicked [{ v := .iface 143 (.int .i64 3), recovered := false }])
end Go.Proofs.Ytcpjcjonlkgblaa.W

namespace Go.Proofs.Ytcpjcjonlkgblaa.W
open Go.RowKit
set_option linter.unusedVariables false

theorem ret_i64 {a b : Int} (h : a = b) : Ending.returned (.int .i64 a) = .returned (.int .i64 b) := by rw [h]

/-- The greatest power of two below n (of two or more). -/
def firstP (n : Nat) : Nat := 2 ^ Nat.log2 (n - 1)

theorem firstP_spec (n : Nat) (h : 2 ≤ n) : 1 ≤ firstP n ∧ firstP n < n ∧ n ≤ 2 * firstP n := by
  have h1 := Nat.log2_self_le (n := n - 1) (by omega)
  have h2 := Nat.lt_log2_self (n := n - 1)
  have h3 : 0 < 2 ^ Nat.log2 (n - 1) := Nat.pow_pos (by omega)
  rw [Nat.pow_succ] at h2
  unfold firstP
  omega

theorem firstP_of (n j : Nat) (h : 2 ≤ n) (h1 : 2 ^ j < n) (h2 : n ≤ 2 * 2 ^ j) : 2 ^ j = firstP n := by
  unfold firstP
  have e : Nat.log2 (n - 1) = j := (Nat.log2_eq_iff (by omega)).2 ⟨by omega, by rw [Nat.pow_succ]; omega⟩
  rw [e]

theorem bitLen_log2 : ∀ (x : Nat), 1 ≤ x → x < 2 ^ 64 → Lib.bitLen x = Nat.log2 x + 1 := by
  intro x
  induction x using Nat.strongRecOn with
  | ind x ih =>
    intro h1 h2
    by_cases hx : x = 1
    · subst hx; decide
    · rw [Lib.bitLen_half x (by omega) h2, ih (x / 2) (by omega) (by omega) (by omega), Nat.log2_def x, if_pos (by omega)]
      omega

theorem wadd (k a b : Nat) (hk : k ≤ 56) (ha : a ≤ 8) (hb : b = k + a) : wrap64 ((k : Int) + wrap64 (a : Int)) = (b : Int) := by
  unfold wrap64; omega

theorem wone (a : Nat) (ha : a ≤ 8) : wrap64 (a : Int) = (a : Int) := by
  unfold wrap64; omega

set_option maxRecDepth 100000 in
theorem tab_size : Lib.len8tab.size = 256 := by decide

theorem tab_get (y : Int) (h : y.toNat < Lib.len8tab.size) (h0 : 0 ≤ y) (h1 : y ≤ 255) : ((Lib.len8tab[y.toNat]'h).toNat : Int) = (Lib.bitLen y.toNat : Int) := by
  rw [← Lib.len8_of y h0 h1]
  unfold Lib.len8
  rw [getElem?_pos Lib.len8tab y.toNat h]
  rfl

theorem tab_way (k : Nat) (y : Int) (h : y.toNat < Lib.len8tab.size) (h0 : 0 ≤ y) (h1 : y ≤ 255) (hk : k ≤ 56) (b : Nat) (hb : b = k + Lib.bitLen y.toNat) :
    wrap64 ((k : Int) + wrap64 ((Lib.len8tab[y.toNat]'h).toNat : Int)) = (b : Int) := by
  rw [tab_get y h h0 h1]
  exact wadd k _ b hk (Lib.bitLen_le8' y h0 h1) hb

theorem tab_zero (y : Int) (h0 : 0 ≤ y) (h1 : y ≤ 255) : wrap64 (wrap64 (Lib.len8 y)) = (Lib.bitLen y.toNat : Int) := by
  rw [Lib.len8_of y h0 h1, wone _ (Lib.bitLen_le8' y h0 h1), wone _ (Lib.bitLen_le8' y h0 h1)]

set_option maxRecDepth 1000000 in
set_option maxHeartbeats 4000000 in
theorem len64_any (x : Int) (w : World) (h0 : 0 ≤ x) (h1 : x ≤ 1099511627775) :
    Calls Try.prog 98 #[.int .u64 x] w fun e w' => e = .returned (.int .i64 (Lib.bitLen x.toNat)) ∧ w = w' := by
  have hsz : (Lib.len8tab.size : Int) = 256 := by have := tab_size; omega
  have hc : x ≤ 255 ∨ (256 ≤ x ∧ x ≤ 65535) ∨ (65536 ≤ x ∧ x ≤ 16777215) ∨ (16777216 ≤ x ∧ x ≤ 4294967295) ∨ 4294967296 ≤ x := by omega
  rcases hc with hc | ⟨hc, hd⟩ | ⟨hc, hd⟩ | ⟨hc, hd⟩ | hc
  · go_enter Try.func98, Try.ntmps98
    go_wp2
    go_ret
    exact ⟨ret_i64 (tab_zero x h0 hc), rfl⟩
  · have e : (x / 256).toNat = x.toNat / 256 := by omega
    have hs := Lib.bitLen_shift8 x.toNat (by omega) (by omega)
    rw [← e] at hs
    have HS : Hid (_ = _) := hs
    clear hs
    clear e
    go_enter Try.func98, Try.ntmps98
    go_wp2
    go_ret
    exact ⟨ret_i64 (tab_way 8 (x / 256) (by have := tab_size; omega) (by omega) (by omega) (by omega) _ HS.out), rfl⟩
  · have e : (x / 65536).toNat = x.toNat / 65536 := by omega
    have hs := Lib.bitLen_shift16 x.toNat (by omega) (by omega)
    rw [← e] at hs
    have HS : Hid (_ = _) := hs
    clear hs
    have h3 : x / 65536 < 256 := by omega
    clear e
    go_enter Try.func98, Try.ntmps98
    go_wp2
    go_ret
    exact ⟨ret_i64 (tab_way 16 (x / 65536) (by have := tab_size; omega) (by omega) (by omega) (by omega) _ HS.out), rfl⟩
  · have e : (x / 65536 / 256).toNat = x.toNat / 16777216 := by omega
    have hs := Lib.bitLen_shift24 x.toNat (by omega) (by omega)
    rw [← e] at hs
    have HS : Hid (_ = _) := hs
    clear hs
    have h3 : 256 ≤ x / 65536 := by omega
    have h4 : x / 65536 / 256 ≤ 255 := by omega
    clear e
    go_enter Try.func98, Try.ntmps98
    go_wp2
    go_ret
    exact ⟨ret_i64 (tab_way 24 (x / 65536 / 256) (by have := tab_size; omega) (by omega) (by omega) (by omega) _ HS.out), rfl⟩
  · have e : (x / 4294967296).toNat = x.toNat / 4294967296 := by omega
    have hs := Lib.bitLen_shift32 x.toNat (by omega) (by omega)
    rw [← e] at hs
    have HS : Hid (_ = _) := hs
    clear hs
    have h3 : x / 4294967296 < 256 := by omega
    clear e
    go_enter Try.func98, Try.ntmps98
    go_wp2
    go_ret
    exact ⟨ret_i64 (tab_way 32 (x / 4294967296) (by have := tab_size; omega) (by omega) (by omega) (by omega) _ HS.out), rfl⟩

theorem wrap_pow (j n : Nat) (h : 2 ^ j < n) (hn : n ≤ 1099511627776) : wrap64 ((2 : Int) ^ j) = ((2 ^ j : Nat) : Int) := by
  have e : ((2 : Int) ^ j) = ((2 ^ j : Nat) : Int) := by push_cast; rfl
  rw [e]; generalize (2 : Nat) ^ j = p at h; unfold wrap64; omega

theorem blen_any (x : Int) (w : World) (h0 : 0 ≤ x) (h1 : x ≤ 1099511627775) :
    Calls Try.prog 95 #[.int .u64 x] w fun e w' => e = .returned (.int .i64 (Lib.bitLen x.toNat)) ∧ w = w' := by
  go_enter Try.func95, Try.ntmps95
  go_wp2_with fail
  refine (len64_any x _ h0 h1).mono ?_
  rintro e w' ⟨rfl, rfl⟩
  go_wp2
  go_ret
  exact ⟨rfl, rfl⟩




end Go.Proofs.Ytcpjcjonlkgblaa.W
