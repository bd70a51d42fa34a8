import Derived.Test.YtpofgnlkhkednaaGreatDoorSBase
import Derived.Deep.CutBlock
import Derived.Laws.Bits64b
import Derived.Laws.MakeOwn
import Derived.Lib.BufferWrite
import Derived.Lib.UnsafeStr
namespace Go.Proofs.YtpofgnlkhkednaaGreatDoor
open Go.RowKit
set_option linter.unusedVariables false
set_option linter.unusedSimpArgs false
set_option maxRecDepth 20000
set_option maxHeartbeats 8000000
abbrev Key := List UInt8
def str (k : Key) : ByteArray := ⟨k.toArray⟩
theorem str_size (k : Key) : (str k).size = k.length := by simp [str, ByteArray.size]
theorem str_get (k : Key) (i : Nat) (h : i < k.length) (h' : i < (str k).size) : (str k)[i] = k[i] := by
 show (k.toArray)[i]'(by simpa using h) = k[i];exact List.getElem_toArray _
theorem str_toList (k : Key) : (str k).toList = k := ByteArray.toList_mk k
theorem ext_take (l : List UInt8) (n : Nat) : (⟨l.toArray⟩ : ByteArray).extract 0 n = ⟨(l.take n).toArray⟩ := by
 apply ByteArray.ext;rw [ByteArray.data_extract];apply Array.ext';simp [List.extract_eq_take_drop]
theorem ext_drop (l : List UInt8) (n : Nat) : (⟨l.toArray⟩ : ByteArray).extract n l.length = ⟨(l.drop n).toArray⟩ := by
 apply ByteArray.ext;rw [ByteArray.data_extract];apply Array.ext';simp only [Array.toList_extract, List.toList_toArray, List.extract_eq_take_drop];rw [List.take_of_length_le (by simp)]
theorem str_size' (l : List UInt8) : (⟨l.toArray⟩ : ByteArray).size = l.length := by simp [ByteArray.size]
theorem hasPre2_any (k p : Key) (w : World) (hp : p.length ≤ maxLen) :
  Calls Tryz.prog 54 #[.string (str k), .string (str p)] w fun e w' => e = .returned (.bool (p.isPrefixOf k)) ∧ w = w' := by
 have s1 := str_size k;have s2 := str_size p;unfold maxLen at hp
 by_cases h : p.length ≤ k.length
 ·have h' : (p.length : Int) ≤ (k.length : Int) := by omega
  have hex : (str k).extract 0 p.length = str (k.take p.length) := by
   unfold str;apply ByteArray.ext;rw [ByteArray.data_extract];apply Array.ext';simp
  have HP : Hid (p.isPrefixOf k = ((str (k.take p.length)).toList == (str p).toList)) := by
   show _ = _;rw [str_toList, str_toList, Bool.eq_iff_iff, List.isPrefixOf_iff_prefix, beq_iff_eq];constructor
   ·intro h2; exact (List.prefix_iff_eq_take.1 h2).symm
   ·intro h2; rw [← h2]; exact List.take_prefix _ _
  go_enter Tryz.func54, Tryz.ntmps54
  go_wp2
  go_ret
  exact ⟨by rw [HP.out]; rfl, rfl⟩
 ·have h' : ¬ (p.length : Int) ≤ (k.length : Int) := by omega
  have HP : Hid (p.isPrefixOf k = false) := by
   show _ = _;rw [Bool.eq_false_iff];intro e;have := (List.isPrefixOf_iff_prefix.1 e).length_le;omega
  go_enter Tryz.func54, Tryz.ntmps54
  go_wp2
  go_ret
  exact ⟨by rw [HP.out]; rfl, rfl⟩
theorem hasPre_any (k p : Key) (w : World) (hp : p.length ≤ maxLen) :
  Calls Tryz.prog 40 #[.string (str k), .string (str p)] w fun e w' => e = .returned (.bool (p.isPrefixOf k)) ∧ w = w' := by
 have K := hasPre2_any k p w hp
 go_enter Tryz.func40, Tryz.ntmps40
 go_wp2_with fail
 refine K.mono ?_;rintro e w' ⟨rfl, rfl⟩
 go_wp2
 go_ret
 exact ⟨rfl, rfl⟩
theorem infoB8 : (Tryz.prog.info? 5).map (fun i => (i.zero, i.size, i.bytes)) = some (some (.int .u8 0), 1, 1) := by kernel_rfl
theorem clone_any (l : List UInt8) (w : World) (hl : l.length ≤ 1000000) :
  Calls Tryz.prog 65 #[.string ⟨l.toArray⟩] w fun e w' => e = .returned (.string ⟨l.toArray⟩) ∧ Below w.heap.size w w' := by
 have sz := str_size' l
 cases l with
 | nil =>
  go_enter Tryz.func65, Tryz.ntmps65
  go_wp2
  go_ret
  exact ⟨rfl, Below.refl _ _⟩
 | cons c r =>
  obtain ⟨i0, hi, hz0, hz1, hz2⟩ := info_parts infoB8;have hne : (((c :: r).length : Int) == 0) = false := by rw [beq_eq_false_iff_ne]; simp only [List.length_cons]; omega
  obtain ⟨n, hn⟩ : ∃ n, (c :: r).length = n := ⟨_, rfl⟩;have hmk := run_makeSlice (P := Tryz.prog) w 43 5 i0 (.int .u8 0) Tryz.underlying43 hi hz0 .i64 .i64 (n : Int) (n : Int) (by omega) (by omega) (by rw [hz1]; simp; omega) (by rw [hz2]; simp; omega) (by omega);rw [hz1, Nat.mul_one, Int.toNat_natCast, show (Value.int .u8 0).cells = #[.int .u8 0] from rfl] at hmk;have k1 := Blk.new w (madeCells #[.int .u8 0] n) 5;have bA : Below w.heap.size w (w.alloc (.cells (madeCells #[.int .u8 0] n) 5)) := (Below.refl _ _).alloc (Nat.le_refl _) _;have hcp := Lib.run_copy_row_string (P := Tryz.prog) (w.alloc (.cells (madeCells #[.int .u8 0] n) 5)) 43 9 3 5 w.heap.size 0 n n ⟨(c :: r).toArray⟩ (madeCells #[.int .u8 0] n) 5 Tryz.underlying43 (by rw [hi]; simp [hz1]) k1 (by rw [sz]; omega) (by rw [sz, size_madeCells]; omega);rw [sz] at hcp;have hlen : (madeCells #[.int .u8 0] n).toList.length = n := by rw [Array.length_toList, size_madeCells]
  have ecs : (List.take 0 (madeCells #[.int .u8 0] n).toList ++ Lib.byteCells (c :: r) ++ List.drop (0 + (c :: r).length) (madeCells #[.int .u8 0] n).toList) = Lib.byteCells (c :: r) := by
   rw [List.take_zero, List.nil_append, List.drop_of_length_le (by rw [hlen]; omega), List.append_nil]
  rw [show (⟨(c :: r).toArray⟩ : ByteArray).data.toList = c :: r from rfl, ecs] at hcp
  have HB : Hid ((w.alloc (.cells (madeCells #[.int .u8 0] n) 5)).setRow w.heap.size (Lib.byteCells (c :: r)).toArray = w.alloc (.cells (Lib.byteCells (c :: r)).toArray 5)) := by
   show _ = _;unfold World.setRow World.alloc
   congr 1
   apply Array.ext
   ·simp
   ·intro i h1 h2;simp only [Array.getElem_modify, Array.getElem_push]
    by_cases hi2 : w.heap.size = i
    ·subst hi2;simp
    ·have : i < w.heap.size := by simp at h2; omega
     simp [hi2, this]
  generalize hl2 : c :: r = l at *
  have hcell : ∀ j x, l[j]? = some x → (w.alloc (.cells (Lib.byteCells l).toArray 5)).cell? ((⟨w.heap.size, 0, none⟩ : Addr).add j) = some (.int .u8 x.toNat) := by
   intro j x hx;rw [show (⟨w.heap.size, 0, none⟩ : Addr).add j = ⟨w.heap.size, j, none⟩ by unfold Addr.add; split <;> simp_all];rw [(Blk.new w (Lib.byteCells l).toArray 5).cell];simp [Lib.byteCells, hx]
  have hus := Lib.run_unsafeString_row (P := Tryz.prog) (w.alloc (.cells (Lib.byteCells l).toArray 5)) 114 3 9 5 Tryz.underlying114 (by kernel_rfl) w.heap.size n (by
   have k2 := Blk.new w (Lib.byteCells l).toArray 5;unfold Blk at k2;simp only [World.shape?, k2]
   rw [show (Lib.byteCells l).toArray.size = n by simp [Lib.byteCells]; exact hn]) l (by rw [← hl2]; simp) (by omega) (by omega) hcell
  rw [HB.out] at hcp;rw [hn] at hcp hus;have hn0 : (0 : Int) < (n : Int) := by rw [← hn, ← hl2]; simp only [List.length_cons]; omega
  have bB : Below w.heap.size w ((w.alloc (.cells (Lib.byteCells l).toArray 5)).freeze ⟨w.heap.size, 0, none⟩ n) := Lib.below_freeze ((Below.refl _ _).alloc (Nat.le_refl _) _) (Nat.le_refl _) _;rw [hn] at hne sz;have HN : Hid (l.length = n) := hn;clear hlen ecs k1 bA hcell hz0 hz1 hz2 hi hl hn hl2 HB
  go_enter Tryz.func65, Tryz.ntmps65
  go_wp2
  go_ret
  exact ⟨rfl, bB⟩
theorem sclone_any (l : List UInt8) (w : World) (hl : l.length ≤ 1000000) :
  Calls Tryz.prog 53 #[.string ⟨l.toArray⟩] w fun e w' => e = .returned (.string ⟨l.toArray⟩) ∧ Below w.heap.size w w' := by
 have K := clone_any l w hl
 go_enter Tryz.func53, Tryz.ntmps53
 go_wp2_with fail
 refine K.mono ?_;rintro e w1 ⟨rfl, b1⟩
 go_wp2
 go_ret
 exact ⟨rfl, b1⟩
def isL (c : UInt8) : Bool := decide (97 ≤ c.toNat) && decide (c.toNat ≤ 122)
def isD (c : UInt8) : Bool := decide (48 ≤ c.toNat) && decide (c.toNat ≤ 57)
def goes (c : UInt8) : Bool := isL c || isD c || decide (c.toNat = 95)
def noNl (c : UInt8) : Bool := decide (c.toNat ≠ 10)
def spanN (f : UInt8 → Bool) : List UInt8 → Nat
 | [] => 0
 | c :: r => if f c then spanN f r + 1 else 0
theorem spanN_le (f : UInt8 → Bool) : ∀ s, spanN f s ≤ s.length
 | [] => Nat.le_refl _
 | c :: r => by
  unfold spanN
  split
  ·have := spanN_le f r; simp; omega
  ·simp
theorem spanN_at (f : UInt8 → Bool) : ∀ (s : List UInt8) (k : Nat), k ≤ s.length → (∀ i c, i < k → s[i]? = some c → f c = true) → (∀ c, s[k]? = some c → f c = false) → spanN f s = k
 | [], k, hk, _, _ => by simp at hk; subst hk; rfl
 | c :: r, 0, _, _, h => by
  have := h c rfl;simp [spanN, this]
 | c :: r, k + 1, hk, ha, h => by
  have h0 := ha 0 c (by omega) rfl;have := spanN_at f r k (by simpa using hk) (fun i d hi hd => ha (i + 1) d (by omega) (by simpa using hd)) (fun d hd => h d (by simpa using hd));simp [spanN, h0, this]
def gap : Bool → List UInt8 → List UInt8
 | _, [] => []
 | false, c :: r => if c.toNat = 32 ∨ c.toNat = 10 then gap false r else if c.toNat = 35 then gap true r else c :: r
 | true, c :: r => if c.toNat = 10 then gap false r else gap true r
theorem gap_span : ∀ s : List UInt8, gap true s = gap false (s.drop (spanN noNl s))
 | [] => rfl
 | c :: r => by
  by_cases h : c.toNat = 10
  ·simp [gap, spanN, noNl, h]
  ·have ih := gap_span r;simp [gap, spanN, noNl, h, ih]
theorem gap_len : ∀ (b : Bool) (s : List UInt8), (gap b s).length ≤ s.length
 | _, [] => by cases ‹Bool› <;> simp [gap]
 | false, c :: r => by
  have h1 := gap_len false r;have h2 := gap_len true r;unfold gap
  split
  ·simp; omega
  ·split
   ·simp; omega
   ·simp
 | true, c :: r => by
  have h1 := gap_len false r;have h2 := gap_len true r;unfold gap
  split <;> simp <;> omega
def wordL : List (List UInt8) := [[99, 111, 110, 116, 114, 97, 99, 116], [115, 108, 111, 116], [109, 97, 112], [102, 110], [111, 112, 101, 110], [108, 101, 116], [105, 102], [101, 108, 115, 101], [119, 104, 105, 108, 101], [114, 101, 116, 117, 114, 110], [110, 101, 101, 100], [112, 97, 121], [110, 111, 116, 101], [97, 115, 107], [118, 97, 108, 117, 101], [103, 97, 115], [116, 114, 117, 101], [102, 97, 108, 115, 101], [115, 101, 108, 102], [99, 97, 108, 108, 101, 114], [104, 101, 105, 103, 104, 116], [98, 97, 108, 97, 110, 99, 101], [119, 104, 111], [110, 117, 109], [102, 108, 97, 103], [111, 114], [97, 110, 100], [110, 111, 116]]
def signL : List (List UInt8) := [[45, 62], [61, 61], [33, 61], [60, 61], [62, 61], [123], [125], [40], [41], [91], [93], [59], [58], [44], [46], [61], [60], [62], [43], [45], [42], [47], [37]]
inductive Tok where
 | none
 | fin
 | name (s : List UInt8)
 | num (n : Int)
 | fixed (s : List UInt8)
deriving DecidableEq
def wordOf (s : List UInt8) : Tok := if wordL.contains s then .fixed s else if s.length ≤ 16 then .name s else .none
def val10 (s : List UInt8) : Int := s.foldl (fun n c => 10 * n + ((c.toNat : Int) - 48)) 0
def numberOf (s : List UInt8) : Tok := if 1 < s.length ∧ s.head? = some 48 then .none else if 1099511627775 < val10 s then .none else .num (val10 s)
def signOf (s : List UInt8) : Tok × List UInt8 :=
 match signL.find? (fun g => decide (s.take g.length = g)) with
 | some g => (.fixed g, s.drop g.length)
 | none => (.none, s)
def cutT : List UInt8 → Tok × List UInt8
 | [] => (.fin, [])
 | c :: r =>
  if isL c then (wordOf ((c :: r).take (spanN goes (c :: r))), (c :: r).drop (spanN goes (c :: r)))
  else if isD c then (numberOf ((c :: r).take (spanN isD (c :: r))), (c :: r).drop (spanN isD (c :: r)))
  else signOf (c :: r)
def Tok.class : Tok → Int
 | .none => 0
 | .fin => 1
 | .name _ => 2
 | .num _ => 3
 | .fixed _ => 4
def Tok.text : Tok → List UInt8
 | .name s => s
 | .fixed s => s
 | _ => []
def Tok.n : Tok → Int
 | .num n => n
 | _ => 0
def Tok.vals (t : Tok) : List Value := [.int .i64 t.class, .string (str t.text), .int .i64 t.n]
end Go.Proofs.YtpofgnlkhkednaaGreatDoor
