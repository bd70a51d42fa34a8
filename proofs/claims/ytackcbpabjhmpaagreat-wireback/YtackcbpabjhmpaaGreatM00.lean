import Derived.Laws.BytesArg
import Derived.WalkKit
import Derived.RowKit3
import Derived.Test.YtackcbpabjhmpaaGreatProg
import Derived.WalkSpells
import Derived.WalkLawsBesides
import Derived.KernelRfl
import Derived.Lib.AppendStr
import Derived.Deep.AppendLies
import Derived.Deep.RegionLaw
import Derived.WalkSmall
import Derived.Lib.BitFns
namespace Go.Proofs.YtackcbpabjhmpaaGreat
open Go.RowKit
set_option linter.unusedVariables false
set_option linter.unusedSimpArgs false
def byteAt (n : Int) : UInt8 := UInt8.ofNat (n % 256).toNat
def be (n : Int) : Nat → List UInt8
 | 0 => []
 | k + 1 => byteAt (n / 256 ^ k) :: be n k
theorem be_len (n : Int) (k : Nat) : (be n k).length = k := by
 induction k with
 | zero => rfl
 | succ k ih => simp [be, ih]
theorem div_step (n : Int) (k : Nat) : n / 256 ^ k / 256 = n / 256 ^ (k + 1) := by
 rw [Int.pow_succ, Int.ediv_ediv_of_nonneg (by exact Int.le_of_lt (Int.pow_pos (by omega)))]
theorem be_snoc (n m : Int) (k : Nat) (l : List UInt8) (hm : m = n / 256 ^ k) (hl : l = be n k) : byteAt m :: l = be n (k + 1) := by
 subst hm; subst hl; rfl
theorem str_cons (x : UInt8) (l : List UInt8) : (⟨#[x]⟩ : ByteArray) ++ ⟨l.toArray⟩ = ⟨(x :: l).toArray⟩ := by
 apply ByteArray.ext
 simp [ByteArray.data_append]
theorem conv_row {P : Program} (src dst e : TypeId) (hs : P.underlying src = some (.slice e)) (he : P.underlying e = some (.int .u8)) (hd : P.underlying dst = some .string)
  (w : World) (xs : List Int) (len : Nat) (hl : xs.length = len) : (convert src dst (.slice (some ⟨w.heap.size, 0, none⟩) len len)).run P (w.alloc (.cells (xs.map (Value.int .u8)).toArray e)) = .ok (.string (strOfNums xs)) (w.alloc (.cells (xs.map (Value.int .u8)).toArray e)) := by
 refine run_convert_bytes_arg (P := P) (w.alloc (.cells (xs.map (Value.int .u8)).toArray e)) src e hs he w.heap.size 0 len len xs hl (fun i hi => ?_) dst hd
 simp [List.getD, hl, hi]
theorem conv_one {P : Program} (src dst e : TypeId) (hs : P.underlying src = some (.slice e)) (he : P.underlying e = some (.int .u8)) (hd : P.underlying dst = some .string)
  (w : World) (x : Int) : (convert src dst (.slice (some ⟨w.heap.size, 0, none⟩) 1 1)).run P (w.alloc (.cells #[.int .u8 x] e)) = .ok (.string ⟨#[UInt8.ofNat x.toNat]⟩) (w.alloc (.cells #[.int .u8 x] e)) :=
 conv_row src dst e hs he hd w [x] 1 rfl
theorem conv_five {P : Program} (src dst e : TypeId) (hs : P.underlying src = some (.slice e)) (he : P.underlying e = some (.int .u8)) (hd : P.underlying dst = some .string)
  (w : World) (a b c d f : Int) : (convert src dst (.slice (some ⟨w.heap.size, 0, none⟩) 5 5)).run P (w.alloc (.cells #[.int .u8 a, .int .u8 b, .int .u8 c, .int .u8 d, .int .u8 f] e)) = .ok (.string (strOfNums [a, b, c, d, f])) (w.alloc (.cells #[.int .u8 a, .int .u8 b, .int .u8 c, .int .u8 d, .int .u8 f] e)) :=
 conv_row src dst e hs he hd w [a, b, c, d, f] 5 rfl
theorem conv_eight {P : Program} (src dst e : TypeId) (hs : P.underlying src = some (.slice e)) (he : P.underlying e = some (.int .u8)) (hd : P.underlying dst = some .string)
  (w : World) (a b c d f g i j : Int) : (convert src dst (.slice (some ⟨w.heap.size, 0, none⟩) 8 8)).run P (w.alloc (.cells #[.int .u8 a, .int .u8 b, .int .u8 c, .int .u8 d, .int .u8 f, .int .u8 g, .int .u8 i, .int .u8 j] e)) = .ok (.string (strOfNums [a, b, c, d, f, g, i, j])) (w.alloc (.cells #[.int .u8 a, .int .u8 b, .int .u8 c, .int .u8 d, .int .u8 f, .int .u8 g, .int .u8 i, .int .u8 j] e)) :=
 conv_row src dst e hs he hd w [a, b, c, d, f, g, i, j] 8 rfl
theorem five_str (n : Int) : strOfNums [n / 4294967296 % 256, n / 16777216 % 256, n / 65536 % 256, n / 256 % 256, n % 256] = ⟨(be n 5).toArray⟩ := by
 simp [strOfNums, be, byteAt]
theorem eight_str (n : Int) (h : 0 ≤ n ∧ n ≤ 18446744073709551615) : strOfNums [n / 72057594037927936, n / 281474976710656 % 256, n / 1099511627776 % 256, n / 4294967296 % 256, n / 16777216 % 256, n / 65536 % 256, n / 256 % 256, n % 256] = ⟨(be n 8).toArray⟩ := by
 have e : n / 72057594037927936 % 256 = n / 72057594037927936 := by omega
 simp [strOfNums, be, byteAt, e]
theorem byteAt_wrap (n m : Int) (k : Nat) (hk : k < 8) (h : m = n % 18446744073709551616) : byteAt (m / 256 ^ k) = byteAt (n / 256 ^ k) := by
 have e : k = 0 ∨ k = 1 ∨ k = 2 ∨ k = 3 ∨ k = 4 ∨ k = 5 ∨ k = 6 ∨ k = 7 := by omega
 unfold byteAt
 congr 2
 rcases e with rfl | rfl | rfl | rfl | rfl | rfl | rfl | rfl <;> simp <;> omega
theorem be_wrap (n m : Int) (k : Nat) (hk : k ≤ 8) (h : m = n % 18446744073709551616) : be m k = be n k := by
 induction k with
 | zero => rfl
 | succ k ih => simp only [be]; rw [byteAt_wrap n m k (by omega) h, ih (by omega)]
set_option maxHeartbeats 400000 in
theorem reight (n : Int) (w : World) (h : 0 ≤ n ∧ n ≤ 18446744073709551615) :
  Calls Tryz.prog 224 #[.int .u64 n] w fun e w' => e = .returned (.string ⟨(be n 8).toArray⟩) ∧ Below w.heap.size w w' := by
 have hc := conv_one (P := Tryz.prog) 183 9 5 Tryz.underlying183 Tryz.underlying5 Tryz.underlying9
 go_enter Tryz.func224, Tryz.ntmps224
 go_wp2
 go_loopw [0, 3, 4] (fun nv sv iv wv => ∃ (k : Nat) (m : Int) (l : List UInt8), k ≤ 8 ∧ 0 ≤ m ∧ m ≤ 18446744073709551615 ∧ Hid (m = n / 256 ^ k) ∧ Hid (l = be n k) ∧ l.length ≤ 8 ∧ iv = .int .i64 k ∧ nv = .int .u64 m ∧ sv = .string ⟨l.toArray⟩ ∧ Below w.heap.size w wv) (fun _ _ iv _ => 8 - (intOf iv).toNat)
 case atStart => exact ⟨0, n, [], by omega, h.1, h.2, by show _ = _; simp, rfl, by simp, rfl, rfl, rfl, Below.refl _ _⟩
 case round =>
  obtain ⟨k, m, l, hk, hm1, hm2, Hm, Hl, hl8, rfl, rfl, rfl, hg⟩ := hrel
  have hlk : l.length = k := by rw [Hl.out, be_len]
  by_cases hlt : k < 8
  ·go_wp2
   refine ⟨⟨k + 1, m / 256, byteAt m :: l, by omega, by omega, by omega, ?_, be_snoc n m k l Hm.out Hl.out, by simp; omega, by go_num, rfl, ?_, hg.alloc hg.size _⟩, by simp [intOf]; omega⟩
   ·show _ = _; rw [Hm.out, div_step]
   ·exact congrArg Value.string (str_cons _ _)
  ·obtain rfl : k = 8 := by omega
   go_wp2
   go_ret
   exact ⟨by rw [← Hl.out]; rfl, hg⟩
set_option maxHeartbeats 400000 in
theorem high5 (n : Int) (w : World) (h : 0 ≤ n ∧ n ≤ 18446744073709551615) :
  Calls Tryz.prog 267 #[.int .u64 n, .int .i64 5] w fun e w' => e = .returned (.string ⟨(be n 5).toArray⟩) ∧ Below w.heap.size w w' := by
 have hmk : ∀ w, (Instr.makeSlice 183 (.int .i64 5) (.int .i64 5)).run Tryz.prog w = .ok (.slice (some ⟨w.heap.size, 0, none⟩) 5 5) (w.alloc (.cells #[.int .u8 0, .int .u8 0, .int .u8 0, .int .u8 0, .int .u8 0] 5)) := fun _ => by kernel_rfl
 have hc := conv_five (P := Tryz.prog) 183 9 5 Tryz.underlying183 Tryz.underlying5 Tryz.underlying9
 go_enter Tryz.func267, Tryz.ntmps267
 go_wp2
 refine wp_loop_rounds 6 ?_
 iterate 6 (rw [rounds_succ]; go_wp2)
 go_ret
 exact ⟨by rw [← five_str]; rfl, (Below.refl _ _).alloc (Nat.le_refl _) _⟩
set_option maxHeartbeats 800000 in
theorem high8 (n : Int) (w : World) (h : 0 ≤ n ∧ n ≤ 18446744073709551615) :
  Calls Tryz.prog 267 #[.int .u64 n, .int .i64 8] w fun e w' => e = .returned (.string ⟨(be n 8).toArray⟩) ∧ Below w.heap.size w w' := by
 have hmk : ∀ w, (Instr.makeSlice 183 (.int .i64 8) (.int .i64 8)).run Tryz.prog w = .ok (.slice (some ⟨w.heap.size, 0, none⟩) 8 8) (w.alloc (.cells #[.int .u8 0, .int .u8 0, .int .u8 0, .int .u8 0, .int .u8 0, .int .u8 0, .int .u8 0, .int .u8 0] 5)) := fun _ => by kernel_rfl
 have hc := conv_eight (P := Tryz.prog) 183 9 5 Tryz.underlying183 Tryz.underlying5 Tryz.underlying9
 go_enter Tryz.func267, Tryz.ntmps267
 go_wp2
 refine wp_loop_rounds 9 ?_
 iterate 9 (rw [rounds_succ]; go_wp2)
 go_ret
 exact ⟨by rw [← eight_str n h]; rfl, (Below.refl _ _).alloc (Nat.le_refl _) _⟩
theorem u64_bounds (n : Int) : 0 ≤ n % 18446744073709551616 ∧ n % 18446744073709551616 ≤ 18446744073709551615 := by omega
set_option maxHeartbeats 400000 in
theorem wfive (n : Int) (w : World) :
  Calls Tryz.prog 266 #[.int .i64 n] w fun e w' => e = .returned (.string ⟨(be n 5).toArray⟩) ∧ Below w.heap.size w w' := by
 go_enter Tryz.func266, Tryz.ntmps266
 go_wp2_with fail
 refine (high5 _ _ (u64_bounds n)).mono ?_
 rintro e w' ⟨rfl, hg⟩
 rw [be_wrap n _ 5 (by omega) rfl]
 go_wp2
 go_ret
 exact ⟨rfl, hg⟩
set_option maxHeartbeats 400000 in
theorem weight (n : Int) (w : World) (h : 0 ≤ n ∧ n ≤ 18446744073709551615) :
  Calls Tryz.prog 223 #[.int .u64 n] w fun e w' => e = .returned (.string ⟨(be n 8).toArray⟩) ∧ Below w.heap.size w w' := by
 go_enter Tryz.func223, Tryz.ntmps223
 go_wp2_with fail
 refine (high8 _ _ h).mono ?_
 rintro e w' ⟨rfl, hg⟩
 go_wp2
 go_ret
 exact ⟨rfl, hg⟩
def Blk (w : World) (b : Nat) (cs : Array Value) (t : TypeId) : Prop := w.heap[b]? = some (.cells cs t (0, 0))
theorem Blk.lt {w : World} {b : Nat} {cs : Array Value} {t : TypeId} (h : Blk w b cs t) : b < w.heap.size := (Array.getElem?_eq_some_iff.1 h).1
theorem Blk.cell {w : World} {b : Nat} {cs : Array Value} {t : TypeId} (h : Blk w b cs t) (i : Nat) : w.cell? ⟨b, i, none⟩ = cs[i]? := by
 unfold Blk at h; simp [World.cell?, h]
theorem Blk.frozen {w : World} {b : Nat} {cs : Array Value} {t : TypeId} (h : Blk w b cs t) (i : Nat) : w.frozen? ⟨b, i, none⟩ = false := by
 unfold Blk at h; simp [World.frozen?, h]
theorem Blk.below {w w' : World} {B b : Nat} {cs : Array Value} {t : TypeId} (h : Blk w b cs t) (hb : Below B w w') (hlt : b < B) : Blk w' b cs t := by
 unfold Blk at *; rw [hb.block b hlt]; exact h
theorem Blk.grown {w w' : World} {row : Option Nat} {b : Nat} {cs : Array Value} {t : TypeId} (h : Blk w b cs t) (hg : w.grownBy w' row) (hne : row ≠ some b) : Blk w' b cs t := by
 have hl := h.lt
 unfold Blk at *; rw [hg.block b hl (fun e => hne e.symm)]; exact h
theorem Blk.drew {w : World} {b : Nat} {cs : Array Value} {t : TypeId} (h : Blk w b cs t) : Blk w.drew b cs t := h
theorem Blk.new (w : World) (cs : Array Value) (t : TypeId) : Blk (w.alloc (.cells cs t)) w.heap.size cs t := by
 show (w.heap.push _)[w.heap.size]? = _; simp
theorem Blk.alloc {w : World} {b : Nat} {cs : Array Value} {t : TypeId} (h : Blk w b cs t) (o : Obj) : Blk (w.alloc o) b cs t := by
 have hl := h.lt
 unfold Blk at *; rw [Below.heap_alloc _ _ _ hl]; exact h
theorem Blk.set {w : World} {b : Nat} {cs : Array Value} {t : TypeId} (h : Blk w b cs t) (i : Nat) (v : Value) : Blk (w.setCell ⟨b, i, none⟩ v) b (cs.setIfInBounds i v) t := by
 unfold Blk at *
 simp [World.setCell, Array.getElem?_modify, h]
theorem Blk.setOther {w : World} {b : Nat} {cs : Array Value} {t : TypeId} (h : Blk w b cs t) (a : Addr) (hne : b ≠ a.block) (v : Value) : Blk (w.setCell a v) b cs t := by
 unfold Blk at *; rw [Below.heap_setCell _ _ _ _ hne]; exact h
def Safe (w : World) (b k : Nat) : Prop := k ≠ b ∧ k < w.heap.size ∧ (k < b ∨ ∀ cs f, w.heap[k]? ≠ some (.cells cs 5 f))
structure Kp (base b : Nat) (w w' : World) : Prop where
 below : Below base w w'
 safe : ∀ k, Safe w b k → w'.heap[k]? = w.heap[k]?
theorem Kp.refl (base b : Nat) (w : World) : Kp base b w w := ⟨Below.refl _ _, fun _ _ => rfl⟩
theorem Safe.kp {base b k : Nat} {w w' : World} (h : Safe w b k) (hK : Kp base b w w') : Safe w' b k :=
 ⟨h.1, Nat.lt_of_lt_of_le h.2.1 hK.below.size, h.2.2.imp id fun hh cs f => by rw [hK.safe k h]; exact hh cs f⟩
theorem Kp.trans {base b : Nat} {w w1 w2 : World} (h : Kp base b w w1) (k : Kp base b w1 w2) : Kp base b w w2 :=
 ⟨h.below.trans k.below, fun j hj => (k.safe j (hj.kp h)).trans (h.safe j hj)⟩
theorem Kp.of_below {base b : Nat} {w w' : World} (h : Below w.heap.size w w') (hb : base ≤ w.heap.size) : Kp base b w w' :=
 ⟨h.mono hb, fun k hk => h.block k hk.2.1⟩
theorem Kp.size {base b : Nat} {w w' : World} (h : Kp base b w w') : w.heap.size ≤ w'.heap.size := h.below.size
theorem Kp.set {base b : Nat} {w : World} (hb : base ≤ b) (i : Nat) (v : Value) : Kp base b w (w.setCell ⟨b, i, none⟩ v) :=
 ⟨(Below.refl _ _).setCell hb _, fun k hk => Below.heap_setCell _ _ _ _ hk.1⟩
theorem Kp.of_grown {base b : Nat} {w w' : World} {v : Value} {n : Nat} {xs : List Value} (ho : w.ownsRow b 5 1 v n xs) (hg : w.grownBy w' v.ownBlock) (hB : base ≤ w.heap.size) (hbb : base ≤ b) : Kp base b w w' := by
 have key : ∀ k, v.ownBlock = some k → b ≤ k ∧ ∃ cs, w.heap[k]? = some (.cells cs 5 (0, 0)) := by
  intro k e
  rcases ho.2 with ⟨rfl, _⟩ | ⟨g, cap, cur, rfl, h1, h2, _⟩
  ·simp [Value.ownBlock] at e
  ·simp [Value.ownBlock] at e
   subst e
   exact ⟨h1, cur, h2⟩
 refine ⟨(Below.refl _ _).grown hg hB (fun k e => Nat.le_trans hbb (key k e).1), fun k hk => hg.block k hk.2.1 (fun e => ?_)⟩
 obtain ⟨hge, cs, h⟩ := key k e.symm
 rcases hk.2.2 with h2 | h2
 ·omega
 ·exact h2 _ _ h
theorem Blk.safe {w : World} {b k : Nat} {cs : Array Value} {t : TypeId} (h : Blk w k cs t) (ht : t ≠ 5) (hk : k ≠ b) : Safe w b k := by
 refine ⟨hk, h.lt, .inr fun c f e => ?_⟩
 unfold Blk at h
 rw [h] at e
 simp only [Option.some.injEq, Obj.cells.injEq] at e
 exact ht e.2.1
theorem Blk.kp {base b k : Nat} {w w' : World} {cs : Array Value} {t : TypeId} (h : Blk w k cs t) (hK : Kp base b w w') (hk : k ≠ b) (ht : t ≠ 5 := by decide) : Blk w' k cs t := by
 have e := hK.safe k (h.safe ht hk)
 unfold Blk at *
 rw [e]; exact h
def bcells (l : List UInt8) : List Value := l.map fun b => Value.int .u8 b.toNat
theorem bcells_str (l : List UInt8) : Lib.strCells ⟨l.toArray⟩ = bcells l := by simp [Lib.strCells, bcells]
theorem bcells_append (l m : List UInt8) : bcells (l ++ m) = bcells l ++ bcells m := by simp [bcells]
def PassAt (w : World) (base b : Nat) (out : List UInt8) : Prop :=
 ∃ v, Blk w b #[.bool false, v, .string ⟨#[]⟩] 185 ∧ w.ownsRow b 5 1 v out.length (bcells out) ∧ base ≤ b
theorem owns_below {w w' : World} {base : Nat} {e : TypeId} {size : Nat} {v : Value} {n : Nat} {xs : List Value} (h : w.ownsRow base e size v n xs) (hb : Below w.heap.size w w') : w'.ownsRow base e size v n xs := by
 obtain ⟨h1, h2⟩ := h
 refine ⟨h1, ?_⟩
 rcases h2 with h2 | ⟨g, cap, cur, e1, e2, e3, e4⟩
 ·exact .inl h2
 ·exact .inr ⟨g, cap, cur, e1, e2, by rw [hb.block g (Array.getElem?_eq_some_iff.1 e3).1]; exact e3, e4⟩
theorem PassAt.below {w w' : World} {base b : Nat} {out : List UInt8} (h : PassAt w base b out) (hb : Below w.heap.size w w') : PassAt w' base b out := by
 obtain ⟨v, h1, h2, h3⟩ := h
 exact ⟨v, h1.below hb h1.lt, owns_below h2 hb, h3⟩
theorem PassAt.le {w : World} {base b : Nat} {out : List UInt8} (h : PassAt w base b out) : base ≤ b ∧ b < w.heap.size := by
 obtain ⟨v, h1, h2, h3⟩ := h
 exact ⟨h3, h1.lt⟩
def RefAt (w : World) (b : Nat) (B : List UInt8) (far odd : Bool) : Prop := Blk w b #[.string ⟨B.toArray⟩, .bool far, .bool odd] 86
def Wrote (base b : Nat) (o : Option (List UInt8)) (e : Ending) (w' : World) : Prop :=
 (∃ out, o = some out ∧ e = .returned (.tuple #[]) ∧ PassAt w' base b out) ∨ (o = none ∧ e = .panicked [{ v := .iface 297 (.int .i64 3), recovered := false }])
theorem ret_i64 {a b : Int} (h : a = b) : Ending.returned (.int .i64 a) = .returned (.int .i64 b) := by rw [h]
theorem bitLen_log2 : ∀ (x : Nat), 1 ≤ x → x < 2 ^ 64 → Lib.bitLen x = Nat.log2 x + 1 := by
 intro x
 induction x using Nat.strongRecOn with
 | ind x ih =>
  intro h1 h2
  by_cases hx : x = 1
  ·subst hx; decide
  ·rw [Lib.bitLen_half x (by omega) h2, ih (x / 2) (by omega) (by omega) (by omega), Nat.log2_def x, if_pos (by omega)]
   omega
theorem wadd (k a b : Nat) (hk : k ≤ 56) (ha : a ≤ 8) (hb : b = k + a) : wrap64 ((k : Int) + wrap64 (a : Int)) = (b : Int) := by
 unfold wrap64; omega
theorem wone (a : Nat) (ha : a ≤ 8) : wrap64 (a : Int) = (a : Int) := by
 unfold wrap64; omega
set_option maxRecDepth 100000 in
theorem tab_size : Lib.len8tab.size = 256 := by decide
theorem tab_get (y : Int) (h : y.toNat < Lib.len8tab.size) (h0 : 0 ≤ y) (h1 : y ≤ 255) : ((Lib.len8tab[y.toNat]'h).toNat : Int) = (Lib.bitLen y.toNat : Int) := by
 rw [← Lib.len8_of y h0 h1]
 unfold Lib.len8
 rw [getElem?_pos Lib.len8tab y.toNat h]
 rfl
theorem tab_way (k : Nat) (y : Int) (h : y.toNat < Lib.len8tab.size) (h0 : 0 ≤ y) (h1 : y ≤ 255) (hk : k ≤ 56) (b : Nat) (hb : b = k + Lib.bitLen y.toNat) :
  wrap64 ((k : Int) + wrap64 ((Lib.len8tab[y.toNat]'h).toNat : Int)) = (b : Int) := by
 rw [tab_get y h h0 h1]
 exact wadd k _ b hk (Lib.bitLen_le8' y h0 h1) hb
theorem tab_zero (y : Int) (h0 : 0 ≤ y) (h1 : y ≤ 255) : wrap64 (wrap64 (Lib.len8 y)) = (Lib.bitLen y.toNat : Int) := by
 rw [Lib.len8_of y h0 h1, wone _ (Lib.bitLen_le8' y h0 h1), wone _ (Lib.bitLen_le8' y h0 h1)]
set_option maxRecDepth 1000000 in
set_option maxHeartbeats 4000000 in
theorem len64_any (x : Int) (w : World) (h0 : 0 ≤ x) (h1 : x ≤ 1099511627775) :
  Calls Tryz.prog 274 #[.int .u64 x] w fun e w' => e = .returned (.int .i64 (Lib.bitLen x.toNat)) ∧ w = w' := by
 have hsz : (Lib.len8tab.size : Int) = 256 := by have := tab_size; omega
 have hc : x ≤ 255 ∨ (256 ≤ x ∧ x ≤ 65535) ∨ (65536 ≤ x ∧ x ≤ 16777215) ∨ (16777216 ≤ x ∧ x ≤ 4294967295) ∨ 4294967296 ≤ x := by omega
 rcases hc with hc | ⟨hc, hd⟩ | ⟨hc, hd⟩ | ⟨hc, hd⟩ | hc
 ·go_enter Tryz.func274, Tryz.ntmps274
  go_wp2
  go_ret
  exact ⟨ret_i64 (tab_zero x h0 hc), rfl⟩
 ·have e : (x / 256).toNat = x.toNat / 256 := by omega
  have hs := Lib.bitLen_shift8 x.toNat (by omega) (by omega)
  rw [← e] at hs
  have HS : Hid (_ = _) := hs
  clear hs
  clear e
  go_enter Tryz.func274, Tryz.ntmps274
  go_wp2
  go_ret
  exact ⟨ret_i64 (tab_way 8 (x / 256) (by have := tab_size; omega) (by omega) (by omega) (by omega) _ HS.out), rfl⟩
 ·have e : (x / 65536).toNat = x.toNat / 65536 := by omega
  have hs := Lib.bitLen_shift16 x.toNat (by omega) (by omega)
  rw [← e] at hs
  have HS : Hid (_ = _) := hs
  clear hs
  have h3 : x / 65536 < 256 := by omega
  clear e
  go_enter Tryz.func274, Tryz.ntmps274
  go_wp2
  go_ret
  exact ⟨ret_i64 (tab_way 16 (x / 65536) (by have := tab_size; omega) (by omega) (by omega) (by omega) _ HS.out), rfl⟩
 ·have e : (x / 65536 / 256).toNat = x.toNat / 16777216 := by omega
  have hs := Lib.bitLen_shift24 x.toNat (by omega) (by omega)
  rw [← e] at hs
  have HS : Hid (_ = _) := hs
  clear hs
  have h3 : 256 ≤ x / 65536 := by omega
  have h4 : x / 65536 / 256 ≤ 255 := by omega
  clear e
  go_enter Tryz.func274, Tryz.ntmps274
  go_wp2
  go_ret
  exact ⟨ret_i64 (tab_way 24 (x / 65536 / 256) (by have := tab_size; omega) (by omega) (by omega) (by omega) _ HS.out), rfl⟩
 ·have e : (x / 4294967296).toNat = x.toNat / 4294967296 := by omega
  have hs := Lib.bitLen_shift32 x.toNat (by omega) (by omega)
  rw [← e] at hs
  have HS : Hid (_ = _) := hs
  clear hs
  have h3 : x / 4294967296 < 256 := by omega
  clear e
  go_enter Tryz.func274, Tryz.ntmps274
  go_wp2
  go_ret
  exact ⟨ret_i64 (tab_way 32 (x / 4294967296) (by have := tab_size; omega) (by omega) (by omega) (by omega) _ HS.out), rfl⟩
theorem blen_any (x : Int) (w : World) (h0 : 0 ≤ x) (h1 : x ≤ 1099511627775) :
  Calls Tryz.prog 265 #[.int .u64 x] w fun e w' => e = .returned (.int .i64 (Lib.bitLen x.toNat)) ∧ w = w' := by
 go_enter Tryz.func265, Tryz.ntmps265
 go_wp2_with fail
 refine (len64_any x _ h0 h1).mono ?_
 rintro e w' ⟨rfl, rfl⟩
 go_wp2
 go_ret
 exact ⟨rfl, rfl⟩
end Go.Proofs.YtackcbpabjhmpaaGreat
