import Derived.Test.YtackcbpabjhmpaaGreatM00
import Derived.Maps.AppendAt
import Derived.OwnWalk
namespace Go.Proofs.YtackcbpabjhmpaaGreat
open Go.RowKit
set_option linter.unusedVariables false
set_option linter.unusedSimpArgs false
def szN (n : Int) : Nat := if n < 1 then 0 else if n < 256 then 1 else if n < 65536 then 2 else if n < 16777216 then 3 else if n < 4294967296 then 4 else 5
def numB (n : Int) : List UInt8 := UInt8.ofNat (szN n) :: be n (szN n)
def inNum (n : Int) : Bool := decide (0 ≤ n) && decide (n ≤ 1099511627775)
def numZ (n : Int) : List UInt8 := if inNum n = true then numB n else []
theorem szN_le (n : Int) : szN n ≤ 5 := by
 unfold szN
 (repeat' split) <;> omega
theorem numB_len (n : Int) : (numB n).length ≤ 6 := by have := szN_le n; simp [numB, be_len]; omega
theorem numZ_len (n : Int) : (numZ n).length ≤ 6 := by unfold numZ; split; exact numB_len n; simp
theorem szN_stop (n : Int) (k : Nat) (h0 : 0 ≤ n) (h : n ≤ 1099511627775) (h1 : n / 256 ^ k ≤ 0) (h2 : k = 0 ∨ 0 < n / 256 ^ (k - 1)) (hk : k ≤ 5) : k = szN n := by
 have e : k = 0 ∨ k = 1 ∨ k = 2 ∨ k = 3 ∨ k = 4 ∨ k = 5 := by omega
 unfold szN
 rcases e with rfl | rfl | rfl | rfl | rfl | rfl <;> simp at h1 h2 <;> (repeat' split) <;> omega
theorem str_app (l m : List UInt8) : (⟨l.toArray⟩ : ByteArray) ++ ⟨m.toArray⟩ = ⟨(l ++ m).toArray⟩ := by
 apply ByteArray.ext
 simp [ByteArray.data_append]
theorem RefAt.cells {w : World} {b : Nat} {B : List UInt8} {far odd : Bool} (h : RefAt w b B far odd) :
  w.cell? ⟨b, 0, none⟩ = some (.string ⟨B.toArray⟩) ∧ w.cell? ⟨b, 1, none⟩ = some (.bool far) ∧ w.cell? ⟨b, 2, none⟩ = some (.bool odd) ∧ w.frozen? ⟨b, 0, none⟩ = false ∧ w.frozen? ⟨b, 1, none⟩ = false ∧ w.frozen? ⟨b, 2, none⟩ = false ∧ b < w.heap.size := by
 have h0 := Blk.cell h 0
 have h1 := Blk.cell h 1
 have h2 := Blk.cell h 2
 simp only [List.getElem?_toArray, List.getElem?_cons_succ, List.getElem?_cons_zero] at h0 h1 h2
 exact ⟨h0, h1, h2, Blk.frozen h 0, Blk.frozen h 1, Blk.frozen h 2, Blk.lt h⟩
theorem RefAt.below {w w' : World} {b : Nat} {B : List UInt8} {far odd : Bool} (h : RefAt w b B far odd) (hb : Below w.heap.size w w') : RefAt w' b B far odd := Blk.below h hb (Blk.lt h)
theorem RefAt.setB {w : World} {b : Nat} {B : List UInt8} {far odd : Bool} (h : RefAt w b B far odd) (C : List UInt8) : RefAt (w.setCell ⟨b, 0, none⟩ (.string ⟨C.toArray⟩)) b C far odd := Blk.set h 0 _
theorem RefAt.setF {w : World} {b : Nat} {B : List UInt8} {far odd : Bool} (h : RefAt w b B far odd) (x : Bool) : RefAt (w.setCell ⟨b, 1, none⟩ (.bool x)) b B x odd := Blk.set h 1 _
theorem RefAt.setO {w : World} {b : Nat} {B : List UInt8} {far odd : Bool} (h : RefAt w b B far odd) (x : Bool) : RefAt (w.setCell ⟨b, 2, none⟩ (.bool x)) b B far x := Blk.set h 2 _
theorem conv_drew {P : Program} (src dst e : TypeId) (hs : P.underlying src = some (.slice e)) (he : P.underlying e = some (.int .u8)) (hd : P.underlying dst = some .string)
  (w : World) (x : Int) : (convert src dst (.slice (some ⟨w.heap.size, 0, none⟩) 1 1)).run P (w.alloc (.cells #[.int .u8 x] e)).drew = .ok (.string ⟨#[UInt8.ofNat x.toNat]⟩) (w.alloc (.cells #[.int .u8 x] e)).drew := by
 refine run_convert_bytes_arg (P := P) (w.alloc (.cells #[.int .u8 x] e)).drew src e hs he w.heap.size 0 1 1 [x] rfl (fun i hi => ?_) dst hd
 obtain rfl : i = 0 := by simpa using hi
 have h : (w.alloc (.cells #[.int .u8 x] e)).cell? ⟨w.heap.size, 0, none⟩ = some (.int .u8 x) := by simp
 exact h
set_option maxHeartbeats 800000 in
theorem rnum_any (base b : Nat) (n : Int) (B : List UInt8) (far odd : Bool) (w : World) (hb : base ≤ b) (hn : -9223372036854775808 ≤ n ∧ n ≤ 9223372036854775807) (hB : B.length ≤ 1099511627776) (h : RefAt w b B far odd) :
  Calls Tryz.prog 46 #[.pointer (some ⟨b, 0, none⟩), .int .i64 n] w fun e w' => e = .returned (.tuple #[]) ∧ RefAt w' b (B ++ numZ n) (far || !inNum n) odd ∧ Kp base b w w' := by
 obtain ⟨c0, c1, c2, f0, f1, f2, hlt⟩ := h.cells
 by_cases hin : inNum n = true
 ·have hr : 0 ≤ n ∧ n ≤ 1099511627775 := by simpa [inNum] using hin
  have e1 : numZ n = numB n := if_pos hin
  rw [hin, e1, show (far || !true) = far by simp]
  clear hin e1
  have hc := conv_one (P := Tryz.prog) 183 9 5 Tryz.underlying183 Tryz.underlying5 Tryz.underlying9
  have hcd := conv_drew (P := Tryz.prog) 183 9 5 Tryz.underlying183 Tryz.underlying5 Tryz.underlying9
  go_enter Tryz.func46, Tryz.ntmps46
  go_wp2
  go_loopw [1, 4] (fun nv sv wv => ∃ (k : Nat) (m : Int) (l : List UInt8), k ≤ 5 ∧ 0 ≤ m ∧ m ≤ 1099511627775 ∧ Hid (m = n / 256 ^ k) ∧ Hid (k = 0 ∨ 0 < n / 256 ^ (k - 1)) ∧ Hid (l = be n k) ∧ l.length ≤ 8 ∧ nv = .int .i64 m ∧ sv = .string ⟨l.toArray⟩ ∧ Below w.heap.size w wv) (fun nv _ _ => (intOf nv).toNat)
  case atStart => exact ⟨0, n, [], by omega, hr.1, hr.2, by show _ = _; simp, .inl rfl, rfl, by simp, rfl, rfl, Below.refl _ _⟩
  case round =>
   obtain ⟨k, m, l, hk, hm1, hm2, Hm, Hk, Hl, hl8, rfl, rfl, hg⟩ := hrel
   have hlk : l.length = k := by rw [Hl.out, be_len]
   by_cases hpos : 0 < m
   ·have hq := Int.tdiv_eq_ediv_of_nonneg (b := 256) hm1
    have hr := Int.tmod_eq_emod_of_nonneg (b := 256) hm1
    have hk5 : k < 5 := by
     rcases Nat.lt_or_ge k 5 with h5 | h5
     ·exact h5
     ·exfalso
      obtain rfl : k = 5 := by omega
      have := Hm.out
      simp at this
      omega
    go_wp2
    refine ⟨⟨k + 1, m / 256, byteAt m :: l, by omega, by omega, by omega, ?_, ?_, be_snoc n m k l Hm.out Hl.out, by simp; omega, rfl, ?_, hg.alloc hg.size _⟩, by simp [intOf]; omega⟩
    ·show _ = _; rw [Hm.out, div_step]
    ·show _ ∨ _; right; rw [Nat.add_sub_cancel, ← Hm.out]; exact hpos
    ·exact congrArg Value.string (str_cons _ _)
   ·have hR := h.below hg
    obtain ⟨d0, d1, d2, g0, g1, g2, hlt'⟩ := hR.cells
    have hk6 : Hid (k = szN n) := szN_stop n k hr.1 hr.2 (by rw [← Hm.out]; omega) Hk.out hk
    go_wp2
    go_region
    have es : (⟨B.toArray⟩ : ByteArray) ++ ⟨#[UInt8.ofNat k]⟩ ++ ⟨l.toArray⟩ = ⟨(B ++ numB n).toArray⟩ := by
     rw [show (⟨#[UInt8.ofNat k]⟩ : ByteArray) = ⟨[UInt8.ofNat k].toArray⟩ from rfl, str_app, str_app, Hl.out, hk6.out]
     simp [numB]
    rw [es]
    go_end0
    have hb1 : Below (wr.setCell ⟨b, 0, none⟩ (.string ⟨(B ++ numB n).toArray⟩)).heap.size (wr.setCell ⟨b, 0, none⟩ (.string ⟨(B ++ numB n).toArray⟩)) ((wr.setCell ⟨b, 0, none⟩ (.string ⟨(B ++ numB n).toArray⟩)).alloc (.cells #[.int .u8 k] 5)).drew := ((Below.refl _ _).alloc (Nat.le_refl _) _).drew
    have hbw : base ≤ w.heap.size := Nat.le_trans hb (Nat.le_of_lt hlt)
    have hbr : base ≤ wr.heap.size := Nat.le_trans hbw hg.size
    exact ⟨rfl, (hR.setB (B ++ numB n)).below hb1, ((Kp.of_below hg hbw).trans (Kp.set hb 0 _)).trans (Kp.of_below hb1 (by simpa [World.setCell] using hbr))⟩
 ·have hin' : inNum n = false := by simpa using hin
  have e1 : numZ n = [] := if_neg hin
  rw [hin', e1, List.append_nil, show (far || !false) = true by simp]
  have hcase : n < 0 ∨ (0 ≤ n ∧ 1099511627775 < n) := by
   have : ¬ (0 ≤ n ∧ n ≤ 1099511627775) := by simpa [inNum] using hin'
   omega
  clear hin hin' e1
  rcases hcase with h1 | ⟨h1, h2⟩
  all_goals
   go_enter Tryz.func46, Tryz.ntmps46
   go_wp2
   refine bodyPost_ret (results_none rfl _ _ _) rfl ?_
   exact ⟨rfl, h.setF true, Kp.set hb 1 _⟩
set_option maxHeartbeats 400000 in
theorem rdig_any (base b : Nat) (d : Int) (B : List UInt8) (far odd : Bool) (w : World) (hb : base ≤ b) (hd : 0 ≤ d ∧ d ≤ 18446744073709551615) (hB : B.length ≤ 1099511627776) (h : RefAt w b B far odd) :
  Calls Tryz.prog 131 #[.pointer (some ⟨b, 0, none⟩), .int .u64 d] w fun e w' => e = .returned (.tuple #[]) ∧ RefAt w' b (B ++ be d 8) far odd ∧ Kp base b w w' := by
 have hlt := (Blk.lt h)
 have hl8 := be_len d 8
 go_enter Tryz.func131, Tryz.ntmps131
 go_wp2_with fail
 refine (reight _ _ hd).mono ?_
 rintro e w1 ⟨rfl, b1⟩
 have hR := h.below b1
 obtain ⟨c0, c1, c2, f0, f1, f2, hlt1⟩ := hR.cells
 generalize hG : be d 8 = D at *
 have HG := show Hid (_ = _) from hG
 clear hG
 go_wp2
 (try go_region)
 rw [str_app]
 go_end0
 have hbw : base ≤ w.heap.size := Nat.le_trans hb (Nat.le_of_lt hlt)
 rw [HG.out]
 exact ⟨rfl, by first | exact hR.setB _ | exact (hR.setB _).below (Below.refl _ _).drew, by first | exact (Kp.of_below b1 hbw).trans (Kp.set hb 0 _) | exact ((Kp.of_below b1 hbw).trans (Kp.set hb 0 _)).trans (Kp.of_below (Below.refl _ _).drew (by simpa [World.setCell] using Nat.le_trans hbw b1.size))⟩
set_option maxHeartbeats 400000 in
theorem rflag_any (base b : Nat) (x : Bool) (B : List UInt8) (far odd : Bool) (w : World) (hb : base ≤ b) (hB : B.length ≤ 1099511627776) (h : RefAt w b B far odd) :
  Calls Tryz.prog 130 #[.pointer (some ⟨b, 0, none⟩), .bool x] w fun e w' => e = .returned (.tuple #[]) ∧ RefAt w' b (B ++ [if x = true then 1 else 0]) far odd ∧ Kp base b w w' := by
 obtain ⟨c0, c1, c2, f0, f1, f2, hlt1⟩ := h.cells
 have hR := h
 cases x
 ·go_enter Tryz.func130, Tryz.ntmps130
  go_wp2
  (try go_region)
  rw [show (⟨#[0]⟩ : ByteArray) = ⟨[0].toArray⟩ from rfl, str_app]
  go_end0
  exact ⟨rfl, by first | exact hR.setB _ | exact (hR.setB _).below (Below.refl _ _).drew, by first | exact Kp.set hb 0 _ | exact (Kp.set hb 0 _).trans (Kp.of_below (Below.refl _ _).drew (by simpa [World.setCell] using Nat.le_trans hb (Nat.le_of_lt hlt1)))⟩
 ·go_enter Tryz.func130, Tryz.ntmps130
  go_wp2
  (try go_region)
  rw [show (⟨#[1]⟩ : ByteArray) = ⟨[1].toArray⟩ from rfl, str_app]
  go_end0
  exact ⟨rfl, by first | exact hR.setB _ | exact (hR.setB _).below (Below.refl _ _).drew, by first | exact Kp.set hb 0 _ | exact (Kp.set hb 0 _).trans (Kp.of_below (Below.refl _ _).drew (by simpa [World.setCell] using Nat.le_trans hb (Nat.le_of_lt hlt1)))⟩
theorem rodd_any (base b : Nat) (x : Bool) (B : List UInt8) (far odd : Bool) (w : World) (hb : base ≤ b) (h : RefAt w b B far odd) :
  Calls Tryz.prog 132 #[.pointer (some ⟨b, 0, none⟩), .bool x] w fun e w' => e = .returned (.tuple #[]) ∧ RefAt w' b B far (odd || x) ∧ Kp base b w w' := by
 obtain ⟨c0, c1, c2, f0, f1, f2, hlt1⟩ := h.cells
 cases x
 ·rw [show (odd || false) = odd by simp]
  go_enter Tryz.func132, Tryz.ntmps132
  go_wp2
  go_end0
  exact ⟨rfl, h, Kp.refl _ _ _⟩
 ·rw [show (odd || true) = true by simp]
  go_enter Tryz.func132, Tryz.ntmps132
  go_wp2
  go_end0
  exact ⟨rfl, h.setO true, Kp.set hb 2 _⟩
theorem rcount_any (base b : Nat) (n most : Int) (B : List UInt8) (far odd : Bool) (w : World) (hb : base ≤ b) (hn : -9223372036854775808 ≤ n ∧ n ≤ 9223372036854775807) (hB : B.length ≤ 1099511627776) (h : RefAt w b B far odd) :
  Calls Tryz.prog 138 #[.pointer (some ⟨b, 0, none⟩), .int .i64 n, .int .i64 most] w fun e w' => e = .returned (.tuple #[]) ∧ RefAt w' b (B ++ numZ n) (far || decide (most < n) || !inNum n) odd ∧ Kp base b w w' := by
 obtain ⟨c0, c1, c2, f0, f1, f2, hlt1⟩ := h.cells
 by_cases hm : most < n
 ·rw [show (far || decide (most < n)) = true by simp [hm]]
  go_enter Tryz.func138, Tryz.ntmps138
  go_wp2_with fail
  refine (rnum_any base b n B true odd _ hb hn hB (h.setF true)).mono ?_
  rintro e w1 ⟨rfl, h1, k1⟩
  go_wp2
  go_end0
  exact ⟨rfl, h1, (Kp.set hb 1 _).trans k1⟩
 ·rw [show (far || decide (most < n)) = far by simp [hm]]
  go_enter Tryz.func138, Tryz.ntmps138
  go_wp2_with fail
  refine (rnum_any base b n B far odd _ hb hn hB h).mono ?_
  rintro e w1 ⟨rfl, h1, k1⟩
  go_wp2
  go_end0
  exact ⟨rfl, h1, k1⟩
def outB (B : List UInt8) (far odd : Bool) : List UInt8 := if far = true then [] else if odd = true then [] else B
def outE (far odd : Bool) : Int := if far = true then 3 else if odd = true then 2 else 0
theorem rout_any (b : Nat) (B : List UInt8) (far odd : Bool) (w : World) (h : RefAt w b B far odd) :
  Calls Tryz.prog 47 #[.pointer (some ⟨b, 0, none⟩)] w fun e w' => e = .returned (.tuple #[.string ⟨(outB B far odd).toArray⟩, .int .i64 (outE far odd)]) ∧ Below w.heap.size w w' := by
 obtain ⟨c0, c1, c2, f0, f1, f2, hlt1⟩ := h.cells
 cases far <;> cases odd
 all_goals
  go_enter Tryz.func47, Tryz.ntmps47
  go_wp2
  (try go_region)
  go_ret2
  exact ⟨rfl, by first | exact Below.refl _ _ | exact (Below.refl _ _).drew⟩
theorem infoByte : (Tryz.prog.info? 5).map (fun i => (i.zero, i.size, i.bytes)) = some (some (.int .u8 0), 1, 1) := by kernel_rfl
theorem owns_form {w : World} {base : Nat} {e : TypeId} {size : Nat} {v : Value} {n : Nat} {xs : List Value} (h : w.ownsRow base e size v n xs) : ∃ a c, v = .slice a n c := by
  rcases h.2 with ⟨rfl, rfl⟩ | ⟨g, cap, cur, rfl, _⟩
  · exact ⟨_, _, rfl⟩
  · exact ⟨_, _, rfl⟩
theorem owns_ne {w : World} {base b n : Nat} {v : Value} {xs : List Value} {cs : Array Value} {t : TypeId} (h : w.ownsRow base 5 1 v n xs) (hB : Blk w b cs t) (ht : t ≠ 5) : v.ownBlock ≠ some b := by
  intro e
  rcases h.2 with ⟨rfl, _⟩ | ⟨g, cap, cur, rfl, _, h2, _⟩
  · simp [Value.ownBlock] at e
  · simp [Value.ownBlock] at e
    subst e
    unfold Blk at hB
    rw [hB] at h2
    simp only [Option.some.injEq, Obj.cells.injEq] at h2
    exact ht h2.2.1
theorem owns_set {w : World} {base b n : Nat} {v : Value} {xs : List Value} {cs : Array Value} {t : TypeId} (h : w.ownsRow base 5 1 v n xs) (hB : Blk w b cs t) (ht : t ≠ 5) (i : Nat) (x : Value) : (w.setCell ⟨b, i, none⟩ x).ownsRow base 5 1 v n xs := by
  have hne := owns_ne h hB ht
  obtain ⟨h1, h2⟩ := h
  refine ⟨h1, ?_⟩
  rcases h2 with h2 | ⟨g, cap, cur, rfl, e2, e3, e4⟩
  · exact .inl h2
  · refine .inr ⟨g, cap, cur, rfl, e2, ?_, e4⟩
    rw [Below.heap_setCell _ _ _ _ (fun e => hne (by simp [Value.ownBlock]; exact e))]
    exact e3
theorem pass_stored {w w2 : World} {base b : Nat} {v v' : Value} {out more : List UInt8} (hP : Blk w b #[.bool false, v, .string ⟨#[]⟩] 185) (hown : w.ownsRow b 5 1 v out.length (bcells out)) (hb : base ≤ b) (hg : w.grownBy w2 v.ownBlock)
    (hown2 : w2.ownsRow b 5 1 v' (out.length + more.length) (bcells out ++ bcells more)) :
    Blk w2 b #[.bool false, v, .string ⟨#[]⟩] 185 ∧ PassAt (w2.setCell ⟨b, 1, none⟩ v') base b (out ++ more) ∧ Kp base b w (w2.setCell ⟨b, 1, none⟩ v') := by
  have k2 := hP.grown hg (owns_ne hown hP (by decide))
  refine ⟨k2, ⟨v', k2.set 1 v', ?_, hb⟩, (Kp.of_grown hown hg (Nat.le_trans hb (Nat.le_of_lt hP.lt)) hb).trans (Kp.set hb 1 _)⟩
  have h := owns_set hown2 k2 (by decide) 1 v'
  rw [← bcells_append, ← List.length_append] at h
  exact h
theorem step_append_str {P : Program} (w : World) {ops : Array Oper} {o : Oper} {a : Act} {K : Act → World → Prop} {Q : Exit → Act → World → Prop} {E : Prop} (hgd : o.guard = none) (sl x : Operand) (t u : TypeId)
    (ho : o.op = .call { callee := .builtin .append, args := #[sl, x], argTypes := #[t, u] })
    (base : Nat) (e : TypeId) (i : TypeInfo) (ht : P.underlying t = some (.slice e)) (hu : P.underlying u = some .string) (hi : P.info? e = some i) (hz : i.zero = some (.int .u8 0))
    (hsize : i.size = 1) (hby : i.bytes = 1)
    (v : Value) (n : Nat) (xs : List Value) (hs : a.eval sl = v) (hown : w.ownsRow base e 1 v n xs) (s : ByteArray) (hx : a.eval x = .string s)
    (h63 : n + s.size ≤ maxLen) (hbytes : n + s.size ≤ 140737488355328) (hbase : base ≤ w.heap.size)
    (h : ∀ a' cap' w', w'.ownsRow base e 1 (.slice a' (n + s.size) cap') (n + s.size) (xs ++ Lib.strCells s) → w.grownBy w' v.ownBlock → K (a.put o.dst (.slice a' (n + s.size) cap')) w') :
    if Region.wanted o (yielded ops a.tmps) = true then Oper.wp P o a w K Q else E := by
  have hw : Region.wanted o (yielded ops a.tmps) = true := by simp [Region.wanted, hgd]
  rw [if_pos hw]
  obtain ⟨v', w', hr, h2, h3, h4⟩ := Lib.run_append_own_string (P := P) w base t u o.type e i ht hu hi hz hsize hby v n xs hown s h63 hbytes hbase
  obtain ⟨a', c', rfl⟩ := owns_form h2
  unfold Oper.wp execOp
  simp only [ho, resolve, invoke, builtin, Sem.run_bind, Sem.run_pure, Result.andThen_ok, List.map_toArray, List.map_cons, List.map_nil, hs, hx, hr]
  exact h a' c' w' h2 h3
theorem refuse_any (n : Int) (w : World) :
    Calls Tryz.prog 216 #[.int .i64 n] w fun e w' => e = .panicked [{ v := .iface 297 (.int .i64 n), recovered := false }] ∧ w = w' := by
  go_enter Tryz.func216, Tryz.ntmps216
  go_wp2
  simp [bodyPost]
theorem szN_bits (n : Int) (h0 : 0 ≤ n) (h1 : n ≤ 1099511627775) : (Lib.bitLen n.toNat + 7) / 8 = szN n := by
  obtain ⟨m, rfl⟩ := Int.eq_ofNat_of_zero_le h0
  rw [Int.toNat_natCast]
  by_cases hz : m = 0
  · subst hz; decide
  · rw [bitLen_log2 m (by omega) (by omega)]
    have key : ∀ a b : Nat, 2 ^ a ≤ m → m < 2 ^ b → a ≤ Nat.log2 m ∧ Nat.log2 m < b := fun a b ha hb => ⟨(Nat.le_log2 hz).2 ha, (Nat.log2_lt hz).2 hb⟩
    unfold szN
    rw [if_neg (by omega)]
    by_cases c1 : (m : Int) < 256
    · rw [if_pos c1]; have := key 0 8 (by omega) (by omega); omega
    · rw [if_neg c1]
      by_cases c2 : (m : Int) < 65536
      · rw [if_pos c2]; have := key 8 16 (by omega) (by omega); omega
      · rw [if_neg c2]
        by_cases c3 : (m : Int) < 16777216
        · rw [if_pos c3]; have := key 16 24 (by omega) (by omega); omega
        · rw [if_neg c3]
          by_cases c4 : (m : Int) < 4294967296
          · rw [if_pos c4]; have := key 24 32 (by omega) (by omega); omega
          · rw [if_neg c4]; have := key 32 40 (by omega) (by omega); omega
theorem be_drop (n : Int) (k : Nat) (hk : k ≤ 5) : (be n 5).drop (5 - k) = be n k := by
  have e : k = 0 ∨ k = 1 ∨ k = 2 ∨ k = 3 ∨ k = 4 ∨ k = 5 := by omega
  rcases e with rfl | rfl | rfl | rfl | rfl | rfl <;> rfl
set_option maxHeartbeats 1600000 in
theorem wnumber_any (base b : Nat) (n : Int) (out : List UInt8) (w : World) (h0 : 0 ≤ n) (h1 : n ≤ 1099511627775) (hL : out.length ≤ 1099511627776) (hP : PassAt w base b out) :
    Calls Tryz.prog 217 #[.pointer (some ⟨b, 0, none⟩), .int .i64 n] w fun e w' => e = .returned (.tuple #[]) ∧ PassAt w' base b (out ++ numB n) ∧ Kp base b w w' := by
  obtain ⟨i0, hinf, hz0, hz1, hz2⟩ := info_parts infoByte
  obtain ⟨v, kP, hown, hb⟩ := hP
  obtain ⟨av, cv, rfl⟩ := owns_form hown
  have hB0 : base ≤ w.heap.size := Nat.le_trans hb (Nat.le_of_lt kP.lt)
  have hS := szN_bits n h0 h1
  have hS5 := szN_le n
  have hbl : Lib.bitLen n.toNat ≤ 64 := Lib.bitLen_le _ 64 (by omega) (by omega)
  have c1 := kP.cell 1
  have f1 := kP.frozen 1
  have hlt := kP.lt
  simp only [List.getElem?_toArray, List.getElem?_cons_succ, List.getElem?_cons_zero] at c1
  have hmod : n % 18446744073709551616 = n := by omega
  have hq : ((Lib.bitLen n.toNat : Int) + 7).tdiv 8 = (szN n : Int) := by
    rw [Int.tdiv_eq_ediv_of_nonneg (by omega), ← hS]; omega
  have Hs := show Hid (_ = _) from hS
  clear hS
  go_enter Tryz.func217, Tryz.ntmps217
  go_wp2_with fail
  refine (blen_any n _ h0 h1).mono ?_
  rintro e w' ⟨rfl, rfl⟩
  generalize hkk : szN n = k at *
  have Hkk := show Hid (_ = _) from hkk
  clear hkk
  go_wp2_with (at_builtin; refine wpList_append_lies _ rfl _ _ _ rfl b 5 i0 (.int .u8 0) 1 1 Tryz.underlying183 hinf hz0 hz1 hz2 rfl (by omega) (.slice av out.length cv) out.length _ rfl (hown.alloc _) ⟨w.heap.size, 0, none⟩ 1 1 [.int .u8 k] rfl rfl ?c1 ?c2 (by omega) ?c3 ?c4 ?c5 (w.heap.size + 1) ?c6 ?_)
  case c1 => exact cell_one_new _ _ _
  case c2 => intro u hu; simp at hu; subst hu; rfl
  case c3 => unfold maxLen; omega
  case c4 => omega
  case c5 => simp; omega
  case c6 => simp
  intro g cg w2 hown2 hgrow hat hlt2
  have b1 : Below w.heap.size w (w.alloc (.cells #[.int .u8 k] 5)) := (Below.refl _ _).alloc (Nat.le_refl _) _
  have hk1 : (k : Int) = ((UInt8.ofNat k).toNat : Int) := by
    have : (UInt8.ofNat k).toNat = k := by simp; omega
    rw [this]
  have e1 : bcells out ++ [.int .u8 (k : Int)] = bcells out ++ bcells [UInt8.ofNat k] := by
    rw [hk1]; rfl
  rw [e1] at hown2
  obtain ⟨kP2, hP3, hK3⟩ := pass_stored (more := [UInt8.ofNat k]) (kP.below b1 kP.lt) (owns_below hown b1) hb hgrow hown2
  have hK := (Kp.of_below (base := base) (b := b) b1 hB0).trans hK3
  have d1 := kP2.cell 1
  have g1 := kP2.frozen 1
  have hlt3 := kP2.lt
  simp only [List.getElem?_toArray, List.getElem?_cons_succ, List.getElem?_cons_zero] at d1
  go_wp2_with fail
  generalize hW3 : w2.setCell ⟨b, 1, none⟩ (.slice (some ⟨g, 0, none⟩) (out.length + 1) cg) = w3 at *
  obtain ⟨v3, kP3, hown3, _⟩ := hP3
  obtain ⟨a3, c3, rfl⟩ := owns_form hown3
  have hLe : (out ++ [UInt8.ofNat k]).length = out.length + 1 := by simp
  generalize hLL : (out ++ [UInt8.ofNat k]).length = L at *
  have HLL := show Hid (_ = _) from hLL
  have hLb : L ≤ 1099511627777 := by omega
  clear hLL hLe
  have hsz3 : base ≤ w3.heap.size := Nat.le_trans hb (Nat.le_of_lt kP3.lt)
  have c31 := kP3.cell 1
  have f31 := kP3.frozen 1
  have lt3 := kP3.lt
  simp only [List.getElem?_toArray, List.getElem?_cons_succ, List.getElem?_cons_zero] at c31
  have hbs : (⟨(be n 5).toArray⟩ : ByteArray).size = 5 := by simp [ByteArray.size, be_len]
  have hwr : IntKind.i64.wrap (5 - (k : Int)) = ((5 - k : Nat) : Int) := by rw [IntKind.wrap_i64]; omega
  have hex : (⟨(be n 5).toArray⟩ : ByteArray).extract (5 - k) 5 = ⟨(be n k).toArray⟩ := by
    apply ByteArray.ext
    rw [ByteArray.data_extract]
    apply Array.ext'
    simp only [Array.toList_extract, List.toList_toArray]
    rw [← be_drop n k hS5, List.extract_eq_take_drop]
    rw [List.take_of_length_le (by simp [be_len])]
  have hj : ((5 - k : Nat) : Int) ≤ 5 := by omega
  have hbk := be_len n k
  clear hW3 hgrow hat hown2 hK3 kP2 d1 g1 hlt3 hlt2 c1 f1 hlt kP hown e1 b1 hq hmod hk1
  go_region_law
    (first
    | (have hb34 := b34
       refine step_append_str _ (by rfl) _ _ _ _ (by rfl) b 5 i0 Tryz.underlying183 Tryz.underlying9 hinf hz0 hz1 hz2 (.slice a3 L c3) L (bcells (out ++ [UInt8.ofNat k])) (by rfl) (owns_below hown3 b34) ⟨(be n k).toArray⟩ (by rfl) (by simp [ByteArray.size, hbk]; unfold maxLen; omega) (by simp [ByteArray.size, hbk]; omega) (Nat.le_of_lt lt4) ?_
       intro a5 c5 w5 hown5 hgrow5
       have hown5' : w5.ownsRow b 5 1 (.slice a5 (L + (⟨(be n k).toArray⟩ : ByteArray).size) c5) ((out ++ [UInt8.ofNat k]).length + (be n k).length) (bcells (out ++ [UInt8.ofNat k]) ++ bcells (be n k)) := by
         rw [HLL.out, ← bcells_str]; exact hown5
       have hown4' : w4.ownsRow b 5 1 (.slice a3 L c3) (out ++ [UInt8.ofNat k]).length (bcells (out ++ [UInt8.ofNat k])) := by
         rw [HLL.out]; exact owns_below hown3 b34
       obtain ⟨kP5, hP6, hK6⟩ := pass_stored (more := be n k) kP4 hown4' hb hgrow5 hown5'
       have c51 := kP5.cell 1
       have f51 := kP5.frozen 1
       have lt5 := kP5.lt
       simp only [List.getElem?_toArray, List.getElem?_cons_succ, List.getElem?_cons_zero] at c51)
    | (go_simp
       go_at_call 266
       refine (wfive n _).mono ?_
       rintro e w4 ⟨rfl, b4⟩
       have b34 : Below w3.heap.size w3 w4 := ((Below.refl _ _).drew).trans b4
       have kP4 := kP3.below b34 lt3
       have c41 := kP4.cell 1
       have f41 := kP4.frozen 1
       have lt4 := kP4.lt
       simp only [List.getElem?_toArray, List.getElem?_cons_succ, List.getElem?_cons_zero] at c41))
  all_goals
    have hszk : (⟨(be n k).toArray⟩ : ByteArray).size = k := by simp [ByteArray.size, hbk]
    rw [hszk] at hP6 hK6
    go_end0
    have en : out ++ numB n = out ++ [UInt8.ofNat k] ++ be n k := by unfold numB; rw [Hkk.out]; simp
    rw [en]
    exact ⟨rfl, hP6, (hK.trans (Kp.of_below b34 hsz3)).trans hK6⟩
theorem PassAt.cells {w : World} {base b : Nat} {out : List UInt8} (h : PassAt w base b out) : w.cell? ⟨b, 0, none⟩ = some (.bool false) ∧ w.cell? ⟨b, 2, none⟩ = some (.string ⟨#[]⟩) ∧ b < w.heap.size ∧ base ≤ b := by
  obtain ⟨v, h1, h2, h3⟩ := h
  have c0 := h1.cell 0
  have c2 := h1.cell 2
  simp only [List.getElem?_toArray, List.getElem?_cons_succ, List.getElem?_cons_zero] at c0 c2
  exact ⟨c0, c2, h1.lt, h3⟩
def pNum (most : Int) (o : Option (List UInt8)) (n : Int) : Option (List UInt8) := o.bind fun out => if 0 ≤ n ∧ n ≤ most then some (out ++ numB n) else none
set_option maxHeartbeats 800000 in
theorem bounded_any (base b : Nat) (a : Addr) (n most : Int) (out : List UInt8) (w : World) (hm : most ≤ 1099511627775) (hL : out.length ≤ 1099511627776) (hP : PassAt w base b out) (ha : w.cell? a = some (.int .i64 n)) :
    Calls Tryz.prog 119 #[.pointer (some ⟨b, 0, none⟩), .pointer (some a), .int .i64 most] w fun e w' => Wrote base b (pNum most (some out) n) e w' ∧ Kp base b w w' := by
  obtain ⟨c0, c2, hlt, hb⟩ := hP.cells
  by_cases h0 : 0 ≤ n
  · by_cases h1 : n ≤ most
    · have e1 : pNum most (some out) n = some (out ++ numB n) := by simp [pNum, h0, h1]
      rw [e1]
      clear e1
      go_enter Tryz.func119, Tryz.ntmps119
      go_wp2_with fail
      refine (wnumber_any base b n out _ h0 (by omega) hL hP).mono ?_
      rintro e w1 ⟨rfl, h1, k1⟩
      go_wp2
      go_end0
      exact ⟨.inl ⟨_, rfl, rfl, h1⟩, k1⟩
    · have e1 : pNum most (some out) n = none := by simp [pNum, h1]
      rw [e1]
      clear e1
      go_enter Tryz.func119, Tryz.ntmps119
      go_wp2_with fail
      refine (refuse_any 3 _).mono ?_
      rintro e w1 ⟨rfl, rfl⟩
      go_wp2
      exact ⟨rfl, .inr ⟨rfl, rfl⟩, Kp.refl _ _ _⟩
  · have e1 : pNum most (some out) n = none := by simp [pNum, h0]
    rw [e1]
    clear e1
    go_enter Tryz.func119, Tryz.ntmps119
    go_wp2_with fail
    refine (refuse_any 3 _).mono ?_
    rintro e w1 ⟨rfl, rfl⟩
    go_wp2
    exact ⟨rfl, .inr ⟨rfl, rfl⟩, Kp.refl _ _ _⟩
end Go.Proofs.YtackcbpabjhmpaaGreat
