/- The answer's writing: numbers, digests, flags, counts, texts (chapter 1, W2, W3). -/
import Derived.Test.YtimcddknoanghaaWBase
import Derived.Test.YtimcddknoanghaaWBits
namespace Go.Proofs.Ytimcddknoanghaa.W
open Go.RowKit
set_option linter.unusedVariables false

/-- How many bytes a number takes. -/
def szN (n : Int) : Nat := if n < 1 then 0 else if n < 256 then 1 else if n < 65536 then 2 else if n < 16777216 then 3 else if n < 4294967296 then 4 else 5

def numB (n : Int) : List UInt8 := UInt8.ofNat (szN n) :: be n (szN n)

def inNum (n : Int) : Bool := decide (0 ≤ n) && decide (n ≤ 1099511627775)

def numZ (n : Int) : List UInt8 := if inNum n = true then numB n else []

theorem szN_le (n : Int) : szN n ≤ 5 := by
  unfold szN
  (repeat' split) <;> omega

theorem numB_len (n : Int) : (numB n).length ≤ 6 := by have := szN_le n; simp [numB, be_len]; omega

theorem numZ_len (n : Int) : (numZ n).length ≤ 6 := by unfold numZ; split; exact numB_len n; simp

theorem szN_stop (n : Int) (k : Nat) (h0 : 0 ≤ n) (h : n ≤ 1099511627775) (h1 : n / 256 ^ k ≤ 0) (h2 : k = 0 ∨ 0 < n / 256 ^ (k - 1)) (hk : k ≤ 5) : k = szN n := by
  have e : k = 0 ∨ k = 1 ∨ k = 2 ∨ k = 3 ∨ k = 4 ∨ k = 5 := by omega
  unfold szN
  rcases e with rfl | rfl | rfl | rfl | rfl | rfl <;> simp at h1 h2 <;> (repeat' split) <;> omega

theorem str_app (l m : List UInt8) : (⟨l.toArray⟩ : ByteArray) ++ ⟨m.toArray⟩ = ⟨(l ++ m).toArray⟩ := by
  apply ByteArray.ext
  simp [ByteArray.data_append]

theorem RefAt.cells {w : World} {b : Nat} {B : List UInt8} {far odd : Bool} (h : RefAt w b B far odd) :
    w.cell? ⟨b, 0, none⟩ = some (.string ⟨B.toArray⟩) ∧ w.cell? ⟨b, 1, none⟩ = some (.bool far) ∧ w.cell? ⟨b, 2, none⟩ = some (.bool odd) ∧ w.frozen? ⟨b, 0, none⟩ = false ∧ w.frozen? ⟨b, 1, none⟩ = false ∧ w.frozen? ⟨b, 2, none⟩ = false ∧ b < w.heap.size := by
  have h0 := Blk.cell h 0
  have h1 := Blk.cell h 1
  have h2 := Blk.cell h 2
  simp only [List.getElem?_toArray, List.getElem?_cons_succ, List.getElem?_cons_zero] at h0 h1 h2
  exact ⟨h0, h1, h2, Blk.frozen h 0, Blk.frozen h 1, Blk.frozen h 2, Blk.lt h⟩

theorem RefAt.below {w w' : World} {b : Nat} {B : List UInt8} {far odd : Bool} (h : RefAt w b B far odd) (hb : Below w.heap.size w w') : RefAt w' b B far odd := Blk.below h hb (Blk.lt h)

theorem RefAt.setB {w : World} {b : Nat} {B : List UInt8} {far odd : Bool} (h : RefAt w b B far odd) (C : List UInt8) : RefAt (w.setCell ⟨b, 0, none⟩ (.string ⟨C.toArray⟩)) b C far odd := Blk.set h 0 _

theorem RefAt.setF {w : World} {b : Nat} {B : List UInt8} {far odd : Bool} (h : RefAt w b B far odd) (x : Bool) : RefAt (w.setCell ⟨b, 1, none⟩ (.bool x)) b B x odd := Blk.set h 1 _

theorem RefAt.setO {w : World} {b : Nat} {B : List UInt8} {far odd : Bool} (h : RefAt w b B far odd) (x : Bool) : RefAt (w.setCell ⟨b, 2, none⟩ (.bool x)) b B far x := Blk.set h 2 _

theorem conv_drew {P : Program} (src dst e : TypeId) (hs : P.underlying src = some (.slice e)) (he : P.underlying e = some (.int .u8)) (hd : P.underlying dst = some .string)
    (w : World) (x : Int) : (convert src dst (.slice (some ⟨w.heap.size, 0, none⟩) 1 1)).run P (w.alloc (.cells #[.int .u8 x] e)).drew = .ok (.string ⟨#[UInt8.ofNat x.toNat]⟩) (w.alloc (.cells #[.int .u8 x] e)).drew := by
  refine run_convert_bytes_arg (P := P) (w.alloc (.cells #[.int .u8 x] e)).drew src e hs he w.heap.size 0 1 1 [x] rfl (fun i hi => ?_) dst hd
  obtain rfl : i = 0 := by simpa using hi
  have h : (w.alloc (.cells #[.int .u8 x] e)).cell? ⟨w.heap.size, 0, none⟩ = some (.int .u8 x) := by simp
  exact h

set_option maxHeartbeats 800000 in
theorem rnum_any (base b : Nat) (n : Int) (B : List UInt8) (far odd : Bool) (w : World) (hb : base ≤ b) (hn : -9223372036854775808 ≤ n ∧ n ≤ 9223372036854775807) (hB : B.length ≤ 1099511627776) (h : RefAt w b B far odd) :
    Calls Try.prog 64 #[.pointer (some ⟨b, 0, none⟩), .int .i64 n] w fun e w' => e = .returned (.tuple #[]) ∧ RefAt w' b (B ++ numZ n) (far || !inNum n) odd ∧ Kp base b w w' := by
  obtain ⟨c0, c1, c2, f0, f1, f2, hlt⟩ := h.cells
  by_cases hin : inNum n = true
  · have hr : 0 ≤ n ∧ n ≤ 1099511627775 := by simpa [inNum] using hin
    have e1 : numZ n = numB n := if_pos hin
    rw [hin, e1, show (far || !true) = far by simp]
    clear hin e1
    have hc := conv_one (P := Try.prog) 103 9 5 Try.underlying103 Try.underlying5 Try.underlying9
    have hcd := conv_drew (P := Try.prog) 103 9 5 Try.underlying103 Try.underlying5 Try.underlying9
    go_enter Try.func64, Try.ntmps64
    go_wp2
    go_loopw [1, 4] (fun nv sv wv => ∃ (k : Nat) (m : Int) (l : List UInt8), k ≤ 5 ∧ 0 ≤ m ∧ m ≤ 1099511627775 ∧ Hid (m = n / 256 ^ k) ∧ Hid (k = 0 ∨ 0 < n / 256 ^ (k - 1)) ∧ Hid (l = be n k) ∧ l.length ≤ 8 ∧ nv = .int .i64 m ∧ sv = .string ⟨l.toArray⟩ ∧ Below w.heap.size w wv) (fun nv _ _ => (intOf nv).toNat)
    case atStart => exact ⟨0, n, [], by omega, hr.1, hr.2, by show _ = _; simp, .inl rfl, rfl, by simp, rfl, rfl, Below.refl _ _⟩
    case round =>
      obtain ⟨k, m, l, hk, hm1, hm2, Hm, Hk, Hl, hl8, rfl, rfl, hg⟩ := hrel
      have hlk : l.length = k := by rw [Hl.out, be_len]
      by_cases hpos : 0 < m
      · have hq := Int.tdiv_eq_ediv_of_nonneg (b := 256) hm1
        have hr := Int.tmod_eq_emod_of_nonneg (b := 256) hm1
        have hk5 : k < 5 := by
          rcases Nat.lt_or_ge k 5 with h5 | h5
          · exact h5
          · exfalso
            obtain rfl : k = 5 := by omega
            have := Hm.out
            simp at this
            omega
        go_wp2
        refine ⟨⟨k + 1, m / 256, byteAt m :: l, by omega, by omega, by omega, ?_, ?_, be_snoc n m k l Hm.out Hl.out, by simp; omega, rfl, ?_, hg.alloc hg.size _⟩, by simp [intOf]; omega⟩
        · show _ = _; rw [Hm.out, div_step]
        · show _ ∨ _; right; rw [Nat.add_sub_cancel, ← Hm.out]; exact hpos
        · exact congrArg Value.string (str_cons _ _)
      · have hR := h.below hg
        obtain ⟨d0, d1, d2, g0, g1, g2, hlt'⟩ := hR.cells
        have hk6 : Hid (k = szN n) := szN_stop n k hr.1 hr.2 (by rw [← Hm.out]; omega) Hk.out hk
        go_wp2
        go_region
        have es : (⟨B.toArray⟩ : ByteArray) ++ ⟨#[UInt8.ofNat k]⟩ ++ ⟨l.toArray⟩ = ⟨(B ++ numB n).toArray⟩ := by
          rw [show (⟨#[UInt8.ofNat k]⟩ : ByteArray) = ⟨[UInt8.ofNat k].toArray⟩ from rfl, str_app, str_app, Hl.out, hk6.out]
          simp [numB]
        rw [es]
        go_end0
        have hb1 : Below (wr.setCell ⟨b, 0, none⟩ (.string ⟨(B ++ numB n).toArray⟩)).heap.size (wr.setCell ⟨b, 0, none⟩ (.string ⟨(B ++ numB n).toArray⟩)) ((wr.setCell ⟨b, 0, none⟩ (.string ⟨(B ++ numB n).toArray⟩)).alloc (.cells #[.int .u8 k] 5)).drew := ((Below.refl _ _).alloc (Nat.le_refl _) _).drew
        have hbw : base ≤ w.heap.size := Nat.le_trans hb (Nat.le_of_lt hlt)
        have hbr : base ≤ wr.heap.size := Nat.le_trans hbw hg.size
        exact ⟨rfl, (hR.setB (B ++ numB n)).below hb1, ((Kp.of_below hg hbw).trans (Kp.set hb 0 _)).trans (Kp.of_below hb1 (by simpa [World.setCell] using hbr))⟩
  · have hin' : inNum n = false := by simpa using hin
    have e1 : numZ n = [] := if_neg hin
    rw [hin', e1, List.append_nil, show (far || !false) = true by simp]
    have hcase : n < 0 ∨ (0 ≤ n ∧ 1099511627775 < n) := by
      have : ¬ (0 ≤ n ∧ n ≤ 1099511627775) := by simpa [inNum] using hin'
      omega
    clear hin hin' e1
    rcases hcase with h1 | ⟨h1, h2⟩
    all_goals
      go_enter Try.func64, Try.ntmps64
      go_wp2
      refine bodyPost_ret (results_none rfl _ _ _) rfl ?_
      exact ⟨rfl, h.setF true, Kp.set hb 1 _⟩

set_option maxHeartbeats 400000 in
theorem rdig_any (base b : Nat) (d : Int) (B : List UInt8) (far odd : Bool) (w : World) (hb : base ≤ b) (hd : 0 ≤ d ∧ d ≤ 18446744073709551615) (hB : B.length ≤ 1099511627776) (h : RefAt w b B far odd) :
    Calls Try.prog 66 #[.pointer (some ⟨b, 0, none⟩), .int .u64 d] w fun e w' => e = .returned (.tuple #[]) ∧ RefAt w' b (B ++ be d 8) far odd ∧ Kp base b w w' := by
  have hlt := (Blk.lt h)
  have hl8 := be_len d 8
  go_enter Try.func66, Try.ntmps66
  go_wp2_with fail
  refine (reight _ _ hd).mono ?_
  rintro e w1 ⟨rfl, b1⟩
  have hR := h.below b1
  obtain ⟨c0, c1, c2, f0, f1, f2, hlt1⟩ := hR.cells
  generalize hG : be d 8 = D at *
  have HG := show Hid (_ = _) from hG
  clear hG
  go_wp2
  (try go_region)
  rw [str_app]
  go_end0
  have hbw : base ≤ w.heap.size := Nat.le_trans hb (Nat.le_of_lt hlt)
  rw [HG.out]
  exact ⟨rfl, by first | exact hR.setB _ | exact (hR.setB _).below (Below.refl _ _).drew, by first | exact (Kp.of_below b1 hbw).trans (Kp.set hb 0 _) | exact ((Kp.of_below b1 hbw).trans (Kp.set hb 0 _)).trans (Kp.of_below (Below.refl _ _).drew (by simpa [World.setCell] using Nat.le_trans hbw b1.size))⟩

set_option maxHeartbeats 400000 in
theorem rflag_any (base b : Nat) (x : Bool) (B : List UInt8) (far odd : Bool) (w : World) (hb : base ≤ b) (hB : B.length ≤ 1099511627776) (h : RefAt w b B far odd) :
    Calls Try.prog 65 #[.pointer (some ⟨b, 0, none⟩), .bool x] w fun e w' => e = .returned (.tuple #[]) ∧ RefAt w' b (B ++ [if x = true then 1 else 0]) far odd ∧ Kp base b w w' := by
  obtain ⟨c0, c1, c2, f0, f1, f2, hlt1⟩ := h.cells
  have hR := h
  cases x
  · go_enter Try.func65, Try.ntmps65
    go_wp2
    (try go_region)
    rw [show (⟨#[0]⟩ : ByteArray) = ⟨[0].toArray⟩ from rfl, str_app]
    go_end0
    exact ⟨rfl, by first | exact hR.setB _ | exact (hR.setB _).below (Below.refl _ _).drew, by first | exact Kp.set hb 0 _ | exact (Kp.set hb 0 _).trans (Kp.of_below (Below.refl _ _).drew (by simpa [World.setCell] using Nat.le_trans hb (Nat.le_of_lt hlt1)))⟩
  · go_enter Try.func65, Try.ntmps65
    go_wp2
    (try go_region)
    rw [show (⟨#[1]⟩ : ByteArray) = ⟨[1].toArray⟩ from rfl, str_app]
    go_end0
    exact ⟨rfl, by first | exact hR.setB _ | exact (hR.setB _).below (Below.refl _ _).drew, by first | exact Kp.set hb 0 _ | exact (Kp.set hb 0 _).trans (Kp.of_below (Below.refl _ _).drew (by simpa [World.setCell] using Nat.le_trans hb (Nat.le_of_lt hlt1)))⟩

theorem rodd_any (base b : Nat) (x : Bool) (B : List UInt8) (far odd : Bool) (w : World) (hb : base ≤ b) (h : RefAt w b B far odd) :
    Calls Try.prog 67 #[.pointer (some ⟨b, 0, none⟩), .bool x] w fun e w' => e = .returned (.tuple #[]) ∧ RefAt w' b B far (odd || x) ∧ Kp base b w w' := by
  obtain ⟨c0, c1, c2, f0, f1, f2, hlt1⟩ := h.cells
  cases x
  · rw [show (odd || false) = odd by simp]
    go_enter Try.func67, Try.ntmps67
    go_wp2
    go_end0
    exact ⟨rfl, h, Kp.refl _ _ _⟩
  · rw [show (odd || true) = true by simp]
    go_enter Try.func67, Try.ntmps67
    go_wp2
    go_end0
    exact ⟨rfl, h.setO true, Kp.set hb 2 _⟩



/-- What Put answers: bytes, an error. -/
def outB (B : List UInt8) (far odd : Bool) : List UInt8 := if far = true then [] else if odd = true then [] else B

def outE (far odd : Bool) : Int := if far = true then 3 else if odd = true then 2 else 0

theorem rout_any (b : Nat) (B : List UInt8) (far odd : Bool) (w : World) (h : RefAt w b B far odd) :
    Calls Try.prog 50 #[.pointer (some ⟨b, 0, none⟩)] w fun e w' => e = .returned (.tuple #[.string ⟨(outB B far odd).toArray⟩, .int .i64 (outE far odd)]) ∧ Below w.heap.size w w' := by
  obtain ⟨c0, c1, c2, f0, f1, f2, hlt1⟩ := h.cells
  cases far <;> cases odd
  all_goals
    go_enter Try.func50, Try.ntmps50
    go_wp2
    (try go_region)
    go_ret2
    exact ⟨rfl, by first | exact Below.refl _ _ | exact (Below.refl _ _).drew⟩
end Go.Proofs.Ytimcddknoanghaa.W
