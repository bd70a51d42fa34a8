/- A pass that reads: numbers, flags, digests, votes into a variable. -/
import Derived.Test.YtaidiomaaldphaaQRd
namespace Go.Proofs.Ytaidiomaaldphaa
open Go.RowKit
set_option linter.unusedVariables false
set_option linter.unusedSimpArgs false

/-- Something was read into cell j of the block xb; rest is left. -/
structure Rd (b xb : Nat) (cs : Array Value) (t : TypeId) (r : List UInt8) (w w' : World) : Prop where
  rd : RdAt w' b r
  x : Blk w' xb cs t
  but : But (fun k => k = b ∨ k = xb) w w'
theorem set_get (cs : Array Value) (j : Nat) (v : Value) (h : j < cs.size) : (cs.setIfInBounds j v)[j]? = some v := by simp [h]

set_option maxHeartbeats 800000 in
theorem bounded_r (b xb j : Nat) (cs : Array Value) (t : TypeId) (n most : Int) (r : List UInt8) (w : World) (h0 : 0 ≤ n) (h1 : n ≤ most) (hm : most ≤ 1099511627775) (k : RdAt w b (numB n ++ r)) (hL : r.length ≤ 1099511627000) (kx : Blk w xb cs t) (hj : j < cs.size) (hne : xb ≠ b) :
    Calls Try.prog 44 #[.pointer (some ⟨b, 0, none⟩), .pointer (some ⟨xb, j, none⟩), .int .i64 most] w fun e w' => e = .returned (.tuple #[]) ∧ Rd b xb (cs.setIfInBounds j (.int .i64 n)) t r w w' := by
  have k' : Blk w b #[.bool true, .slice none 0 0, .string ⟨(numB n ++ r).toArray⟩] 80 := k
  have c0 := (k'.cell 0).trans rfl
  have zb := k'.lt
  have KN := readNumber_any b n r w h0 (by omega) k hL
  go_enter Try.func44, Try.ntmps44
  go_wp2_with fail
  refine KN.mono ?_
  rintro e w1 ⟨rfl, k1, B1⟩
  have kx1 := B1.blk kx hne
  have xc : w1.cell? ⟨xb, j, none⟩ = some cs[j] := by rw [kx1.cell]; simp [hj]
  have xf := kx1.frozen j
  have zx := kx1.lt
  have kx2 := kx1.set j (.int .i64 n)
  have k2 : Blk (w1.setCell ⟨xb, j, none⟩ (.int .i64 n)) b #[.bool true, .slice none 0 0, .string ⟨r.toArray⟩] 80 := Blk.setOther (show Blk w1 b #[.bool true, .slice none 0 0, .string ⟨r.toArray⟩] 80 from k1) ⟨xb, j, none⟩ (fun e => hne e.symm) (.int .i64 n)
  have B2 : But (fun k => k = b ∨ k = xb) w (w1.setCell ⟨xb, j, none⟩ (.int .i64 n)) := (B1.mono (fun _ h => .inl h)).trans (But.set w1 (p := ⟨xb, j, none⟩) (.inr rfl) _)
  have y0 := (k2.cell 0).trans rfl
  have y1 : (w1.setCell ⟨xb, j, none⟩ (.int .i64 n)).cell? ⟨xb, j, none⟩ = some (.int .i64 n) := by rw [kx2.cell]; exact set_get _ _ _ hj
  have z2 := k2.lt
  have z3 := kx2.lt
  clear c0 zb KN k k' kx B1 k1
  go_upto_region 2 with fail
  generalize w1.setCell ⟨xb, j, none⟩ (.int .i64 n) = w2 at *
  clear xc xf zx kx1
  have hn0 : ¬ n < 0 := by omega
  have hnm : ¬ most < n := by omega
  go_wp2
  go_end0
  exact ⟨rfl, k2, kx2, B2⟩

set_option maxHeartbeats 800000 in
theorem number_r (b xb j : Nat) (cs : Array Value) (t : TypeId) (n : Int) (r : List UInt8) (w : World) (h0 : 0 ≤ n) (h1 : n ≤ 1099511627775) (k : RdAt w b (numB n ++ r)) (hL : r.length ≤ 1099511627000) (kx : Blk w xb cs t) (hj : j < cs.size) (hne : xb ≠ b) :
    Calls Try.prog 27 #[.pointer (some ⟨b, 0, none⟩), .pointer (some ⟨xb, j, none⟩)] w fun e w' => e = .returned (.tuple #[]) ∧ Rd b xb (cs.setIfInBounds j (.int .i64 n)) t r w w' := by
  go_enter Try.func27, Try.ntmps27
  go_wp2_with fail
  refine (bounded_r b xb j cs t n 1099511627775 r _ h0 h1 (by omega) k hL kx hj hne).mono ?_
  rintro e w1 ⟨rfl, R⟩
  go_wp2
  go_end0
  exact ⟨rfl, R⟩
theorem Rd.trans {b xb : Nat} {cs cs2 : Array Value} {t : TypeId} {r r2 : List UInt8} {w w1 w2 : World} (h : Rd b xb cs t r w w1) (k : Rd b xb cs2 t r2 w1 w2) : Rd b xb cs2 t r2 w w2 := ⟨k.rd, k.x, h.but.trans k.but⟩

set_option maxHeartbeats 800000 in
theorem readFlag_any (b : Nat) (x : Bool) (r : List UInt8) (w : World) (k : RdAt w b (flagB x ++ r)) (hL : r.length ≤ 1099511627000) :
    Calls Try.prog 61 #[.pointer (some ⟨b, 0, none⟩)] w fun e w' => e = .returned (.bool x) ∧ RdAt w' b r ∧ But (fun k => k = b) w w' := by
  have K1 := cut_any b (flagB x ++ r) 1 w k (by simp [flagB]) (by simp [flagB]; omega)
  have t1 : (flagB x ++ r).take 1 = [if x = true then 1 else 0] := by simp [flagB]
  have d1 : (flagB x ++ r).drop 1 = r := by simp [flagB]
  rw [t1, d1] at K1
  clear t1 d1
  cases x
  · have hix : ∀ h : 0 < (⟨#[0]⟩ : ByteArray).size, ((⟨#[0]⟩ : ByteArray)[0]'h).toNat = 0 := fun h => rfl
    simp only [Bool.false_eq_true, if_false] at K1
    go_enter Try.func61, Try.ntmps61
    go_wp2_with fail
    refine K1.mono ?_
    rintro e w1 ⟨rfl, k1, B1⟩
    go_wp2
    go_ret
    exact ⟨rfl, k1, B1⟩
  · have hix : ∀ h : 0 < (⟨#[1]⟩ : ByteArray).size, ((⟨#[1]⟩ : ByteArray)[0]'h).toNat = 1 := fun h => rfl
    simp only [if_true] at K1
    go_enter Try.func61, Try.ntmps61
    go_wp2_with fail
    refine K1.mono ?_
    rintro e w1 ⟨rfl, k1, B1⟩
    go_wp2
    go_ret
    exact ⟨rfl, k1, B1⟩

set_option maxHeartbeats 800000 in
theorem flag_r (b xb j : Nat) (cs : Array Value) (t : TypeId) (x : Bool) (r : List UInt8) (w : World) (k : RdAt w b (flagB x ++ r)) (hL : r.length ≤ 1099511627000) (kx : Blk w xb cs t) (hj : j < cs.size) (hne : xb ≠ b) :
    Calls Try.prog 46 #[.pointer (some ⟨b, 0, none⟩), .pointer (some ⟨xb, j, none⟩)] w fun e w' => e = .returned (.tuple #[]) ∧ Rd b xb (cs.setIfInBounds j (.bool x)) t r w w' := by
  have k' : Blk w b #[.bool true, .slice none 0 0, .string ⟨(flagB x ++ r).toArray⟩] 80 := k
  have c0 := (k'.cell 0).trans rfl
  have zb := k'.lt
  have KN := readFlag_any b x r w k hL
  go_enter Try.func46, Try.ntmps46
  go_wp2_with fail
  refine KN.mono ?_
  rintro e w1 ⟨rfl, k1, B1⟩
  have kx1 := B1.blk kx hne
  have xc : w1.cell? ⟨xb, j, none⟩ = some cs[j] := by rw [kx1.cell]; simp [hj]
  have xf := kx1.frozen j
  have zx := kx1.lt
  have kx2 := kx1.set j (.bool x)
  have k2 : Blk (w1.setCell ⟨xb, j, none⟩ (.bool x)) b #[.bool true, .slice none 0 0, .string ⟨r.toArray⟩] 80 := Blk.setOther (show Blk w1 b #[.bool true, .slice none 0 0, .string ⟨r.toArray⟩] 80 from k1) ⟨xb, j, none⟩ (fun e => hne e.symm) (.bool x)
  have B2 : But (fun k => k = b ∨ k = xb) w (w1.setCell ⟨xb, j, none⟩ (.bool x)) := (B1.mono (fun _ h => .inl h)).trans (But.set w1 (p := ⟨xb, j, none⟩) (.inr rfl) _)
  clear c0 zb KN k k' kx B1 k1
  go_wp2
  exact bodyPost_ret (v := .tuple #[]) (by simp [results, Try.results46]) rfl ⟨rfl, k2, kx2, B2⟩

set_option maxHeartbeats 800000 in
theorem digest_r (b xb j : Nat) (cs : Array Value) (t : TypeId) (d : Int) (r : List UInt8) (w : World) (h0 : 0 ≤ d) (h1 : d ≤ 18446744073709551615) (k : RdAt w b (be d 8 ++ r)) (hL : r.length ≤ 1099511627000) (kx : Blk w xb cs t) (hj : j < cs.size) (hne : xb ≠ b) :
    Calls Try.prog 47 #[.pointer (some ⟨b, 0, none⟩), .pointer (some ⟨xb, j, none⟩)] w fun e w' => e = .returned (.tuple #[]) ∧ Rd b xb (cs.setIfInBounds j (.int .u64 d)) t r w w' := by
  have k' : Blk w b #[.bool true, .slice none 0 0, .string ⟨(be d 8 ++ r).toArray⟩] 80 := k
  have c0 := (k'.cell 0).trans rfl
  have zb := k'.lt
  have hbl := be_len d 8
  have K1 := cut_any b (be d 8 ++ r) 8 w k (by simp [hbl]) (by simp [hbl]; omega)
  have t1 : (be d 8 ++ r).take 8 = be d 8 := by rw [List.take_append_of_le_length (by omega), List.take_of_length_le (by omega)]
  have d1 : (be d 8 ++ r).drop 8 = r := by rw [List.drop_append_of_le_length (by omega), List.drop_of_length_le (by omega)]; rfl
  rw [t1, d1] at K1
  have K2 := fun w' => valueOf_any (be d 8) w' (by omega)
  rw [show ((val (be d 8) : Nat) : Int) = d from val_be 8 d h0 (by omega)] at K2
  clear t1 d1
  generalize be d 8 = l at *
  go_enter Try.func47, Try.ntmps47
  go_wp2_with fail
  refine K1.mono ?_
  rintro e w1 ⟨rfl, k1, B1⟩
  go_wp2_with fail
  refine (K2 w1).mono ?_
  rintro e w1' ⟨rfl, rfl⟩
  have kx1 := B1.blk kx hne
  have xc : w1.cell? ⟨xb, j, none⟩ = some cs[j] := by rw [kx1.cell]; simp [hj]
  have xf := kx1.frozen j
  have zx := kx1.lt
  have kx2 := kx1.set j (.int .u64 d)
  have k2 : Blk (w1.setCell ⟨xb, j, none⟩ (.int .u64 d)) b #[.bool true, .slice none 0 0, .string ⟨r.toArray⟩] 80 := Blk.setOther (show Blk w1 b #[.bool true, .slice none 0 0, .string ⟨r.toArray⟩] 80 from k1) ⟨xb, j, none⟩ (fun e => hne e.symm) (.int .u64 d)
  have B2 : But (fun k => k = b ∨ k = xb) w (w1.setCell ⟨xb, j, none⟩ (.int .u64 d)) := (B1.mono (fun _ h => .inl h)).trans (But.set w1 (p := ⟨xb, j, none⟩) (.inr rfl) _)
  clear c0 zb K1 K2 k k' kx B1 k1
  go_wp2
  exact bodyPost_ret (v := .tuple #[]) (by simp [results, Try.results47]) rfl ⟨rfl, k2, kx2, B2⟩

theorem end_r (b : Nat) (w : World) (k : RdAt w b []) : Calls Try.prog 57 #[.pointer (some ⟨b, 0, none⟩)] w fun e w' => e = .returned (.tuple #[]) ∧ w = w' := by
  have k' : Blk w b #[.bool true, .slice none 0 0, .string ⟨#[]⟩] 80 := k
  have c2 := (k'.cell 2).trans rfl
  have zb := k'.lt
  go_enter Try.func57, Try.ntmps57
  go_wp2
  go_end0
  exact ⟨rfl, rfl⟩
end Go.Proofs.Ytaidiomaaldphaa
