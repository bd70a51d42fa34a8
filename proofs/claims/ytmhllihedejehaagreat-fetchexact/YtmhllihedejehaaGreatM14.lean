/- Where two keys part: the program. -/
import Derived.Test.YtmhllihedejehaaGreatM07
import Derived.Deep.QuietTactic
import Derived.BigQuiet
import Derived.Deep.CutRange
import Derived.Deep.DeepCutAuto
import Derived.Test.YtmhllihedejehaaGreatTWi

namespace Go.Proofs.YtmhllihedejehaaGreat
open Go.RowKit
set_option linter.unusedVariables false

set_option maxRecDepth 100000 in
theorem tab_size : Lib.len8tab.size = 256 := by decide
theorem tab_get (y : Int) (h : y.toNat < Lib.len8tab.size) (h0 : 0 ≤ y) (h1 : y ≤ 255) : ((Lib.len8tab[y.toNat]'h).toNat : Int) = (Lib.bitLen y.toNat : Int) := by
  rw [← Lib.len8_of y h0 h1]
  unfold Lib.len8
  rw [getElem?_pos Lib.len8tab y.toNat h]
  rfl
theorem wone (a : Nat) (ha : a ≤ 8) : wrap64 (a : Int) = (a : Int) := by
  unfold wrap64; omega

set_option maxRecDepth 1000000 in
set_option maxHeartbeats 4000000 in
theorem len8_any (x : Int) (w : World) (h0 : 0 ≤ x) (h1 : x ≤ 255) :
    Calls Tryz.prog 87 #[.int .u8 x] w fun e w' => e = .returned (.int .i64 (Lib.bitLen x.toNat)) ∧ w = w' := by
  have hsz : (Lib.len8tab.size : Int) = 256 := by have := tab_size; omega
  go_enter Tryz.func87, Tryz.ntmps87
  go_wp2
  go_ret
  refine ⟨ret_i64 ?_, rfl⟩
  first
  | (rw [Lib.len8_of x h0 h1, wone _ (Lib.bitLen_le8' x h0 h1)])
  | (rw [tab_get x (by omega) h0 h1, wone _ (Lib.bitLen_le8' x h0 h1)])

theorem lz8_any (x : Int) (w : World) (h0 : 0 ≤ x) (h1 : x ≤ 255) :
    Calls Tryz.prog 75 #[.int .u8 x] w fun e w' => e = .returned (.int .i64 (8 - (Lib.bitLen x.toNat : Nat) : Int)) ∧ w = w' := by
  have hb := Lib.bitLen_le8' x h0 h1
  go_enter Tryz.func75, Tryz.ntmps75
  go_wp2_with fail
  refine (len8_any x _ h0 h1).mono ?_
  rintro e w' ⟨rfl, rfl⟩
  go_wp2
  go_ret
  exact ⟨rfl, rfl⟩

theorem lz8_same (x : Int) (w : World) (h0 : 0 ≤ x) (h1 : x ≤ 255) :
    Calls Tryz.prog 75 #[.int .u8 x] w fun e w' => e = .returned (.int .i64 (8 - (Lib.bitLen x.toNat : Nat) : Int)) ∧ w' = w :=
  (lz8_any x w h0 h1).mono fun _ _ ⟨h, g⟩ => ⟨h, g.symm⟩

theorem parting_same (a : Key) (w : World) :
    Calls Tryz.prog 49 #[.string (str a), .string (str a)] w fun e w' => e = .returned (.int .i64 288) ∧ w = w' := by
  go_enter Tryz.func49, Tryz.ntmps49
  go_wp2
  go_ret
  exact ⟨rfl, rfl⟩

set_option maxHeartbeats 3200000 in
theorem parting_any (a b : Key) (w : World) (hne : a ≠ b) (ha : a.length ≤ 1000000) (hb : b.length ≤ 1000000) :
    Calls Tryz.prog 49 #[.string (str a), .string (str b)] w fun e w' => e = .returned (.int .i64 (keyPart a b : Nat)) ∧ ∃ n, w' = w.drewN n := by
  have hsa := str_size a
  have hsb := str_size b
  have hla := str_toList a
  have hlb := str_toList b
  have hn : (a == b) = false := by simpa using hne
  go_enter Tryz.func49, Tryz.ntmps49
  go_wp2_with fail
  go_loopw [5] (fun iv wv => ∃ i : Nat, i ≤ a.length ∧ i ≤ b.length ∧ iv = .int .i64 i ∧ Hid (a.take i = b.take i) ∧ ∃ n, wv = w.drewN n) (fun iv _ => a.length - (intOf iv).toNat)
  case atStart => exact ⟨0, Nat.zero_le _, Nat.zero_le _, rfl, rfl, 0, rfl⟩
  case round =>
    obtain ⟨i, hi1, hi2, rfl, HT, n0, rfl⟩ := hrel
    clear hla hlb hn
    by_cases h1 : i < a.length
    · by_cases h2 : i < b.length
      · have h1' : (i : Int) < (a.length : Int) := by omega
        have h2' : (i : Int) < (b.length : Int) := by omega
        have hta := List.take_succ_eq_append_getElem h1
        have htb := List.take_succ_eq_append_getElem h2
        have hda := List.drop_eq_getElem_cons h1
        have hdb := List.drop_eq_getElem_cons h2
        obtain ⟨ca, ea, hca⟩ : ∃ c, a[i] = c ∧ ∀ h', (str a)[i]'h' = c := ⟨a[i], rfl, fun h' => str_get a i h1 h'⟩
        obtain ⟨cb, eb, hcb⟩ : ∃ c, b[i] = c ∧ ∀ h', (str b)[i]'h' = c := ⟨b[i], rfl, fun h' => str_get b i h2 h'⟩
        rw [ea] at hta hda
        rw [eb] at htb hdb
        by_cases h3 : ca = cb
        · have HT1 : Hid (a.take (i + 1) = b.take (i + 1)) := by
            show _ = _
            rw [hta, htb, HT.out, h3]
          subst h3
          clear hta htb hda hdb ea eb
          go_upto_region 4 with fail
          go_quiet (fail)
          go_wp2
          exact ⟨⟨i + 1, by omega, by omega, by go_num, HT1, _, rfl⟩, by simp [intOf]; omega⟩
        · have HP : Hid (keyPart a b = 9 * i + (9 - Lib.bitLen (ca.toNat ^^^ cb.toNat))) := by
            show _ = _
            rw [keyPart_take i a b hi1 hi2 HT.out, hda, hdb]
            simp [keyPart, h3]
          have h3n : ¬ ca.toNat = cb.toNat := fun e => h3 (UInt8.toNat_inj.1 e)
          have h3' : ((ca.toNat : Int) == (cb.toNat : Int)) = false := by simp; omega
          have h1e : ((i : Int) == (a.length : Int)) = false := by simp; omega
          have h2e : ((i : Int) == (b.length : Int)) = false := by simp; omega
          have hxa := ca.toNat_lt
          have hxb := cb.toNat_lt
          have hxl := bits_xor_u8_nat ca.toNat cb.toNat hxa hxb
          have hxm : ca.toNat ^^^ cb.toNat < 256 := Nat.xor_lt_two_pow (n := 8) hxa hxb
          have hbl := Lib.bitLen_le8 ⟨_, hxm⟩
          simp only at hbl
          have hx0 : (0 : Int) ≤ ((ca.toNat ^^^ cb.toNat : Nat) : Int) := by omega
          have hx1 : ((ca.toNat ^^^ cb.toNat : Nat) : Int) ≤ 255 := by omega
          clear hta htb hda hdb ea eb h3 h3n hxa hxb
          go_upto_region 4 with fail
          go_quiet (fail)
          go_upto_region 8 with fail
          generalize hnn : n0 + nq = n1
          obtain ⟨wq, Hwq⟩ : ∃ x, Hid (x = w.drewN n1) := ⟨_, rfl⟩
          rw [← Hwq.out]
          go_quiet ((go_at_call 75; exact Calls.quiet_of_same (lz8_same _ _ hx0 hx1)))
          go_wp2
          go_ret
          refine ⟨ret_i64 ?_, n1 + nq, ?_⟩
          · have h := HP.out
            have h8 : Lib.bitLen (ca.toNat ^^^ cb.toNat) ≤ 8 := hbl
            omega
          · rw [Hwq.out, World.drewN_drewN]
      · have h1' : (i : Int) < (a.length : Int) := by omega
        have h2' : ¬ (i : Int) < (b.length : Int) := by omega
        have h2d : decide ((i : Int) < (b.length : Int)) = false := by simpa using h2'
        have HP : Hid (keyPart a b = 9 * i) := by
          show _ = _
          rw [keyPart_take i a b hi1 hi2 HT.out, show b.drop i = [] from List.drop_eq_nil_of_le (by omega)]
          cases a.drop i <;> simp [keyPart]
        have h1e : ((i : Int) == (a.length : Int)) = false := by simp; omega
        have h2e : ((i : Int) == (b.length : Int)) = true := by simp; omega
        go_upto_region 4 with fail
        go_quiet (fail)
        go_wp2
        go_ret
        exact ⟨ret_i64 (by rw [HP.out]; push_cast; rfl), _, rfl⟩
    · have h1' : ¬ (i : Int) < (a.length : Int) := by omega
      have h1d : decide ((i : Int) < (a.length : Int)) = false := by simpa using h1'
      have HP : Hid (keyPart a b = 9 * i) := by
        show _ = _
        rw [keyPart_take i a b hi1 hi2 HT.out, show a.drop i = [] from List.drop_eq_nil_of_le (by omega)]
        simp [keyPart]
      have hil : i = a.length := by omega
      have HPl : Hid (keyPart a b = 9 * a.length) := by show _ = _; rw [← hil]; exact HP.out
      subst hil
      go_upto_region 4 with fail
      go_quiet (fail)
      go_wp2
      go_ret
      exact ⟨ret_i64 (by rw [HPl.out]; push_cast; rfl), _, rfl⟩
end Go.Proofs.YtmhllihedejehaaGreat

namespace Go.Proofs.YtmhllihedejehaaGreat
open Go.RowKit
set_option linter.unusedVariables false
set_option linter.unusedSimpArgs false

/-- Where a key parts from what is found at the end of its way. -/
def placeOf (key : Key) (t : Tr) : Nat := if (t.find key).1 = key then 288 else keyPart key (t.find key).1

def putO (key value : Key) (o : Option Tr) : Option Tr :=
  if getO key o = value then o
  else if value = [] then (match o with | none => none | some t => t.without key)
  else match o with | none => some (.leaf key value) | some t => some (t.with_ key value (placeOf key t))

theorem put_long (wd : Int) (q : Option Addr) (key value : Key) (w : World) (hk : key.length ≤ maxLen) (hv : value.length ≤ maxLen) (h : 32 < key.length ∨ 4096 < value.length) :
    Calls Tryz.prog 23 #[.agg #[.int .i64 wd, .pointer q], .string (str key), .string (str value)] w fun e w' => e = .returned (.tuple #[.agg #[.int .i64 0, .pointer none], .int .i64 3]) ∧ Below w.heap.size w w' := by
  have s1 := str_size key
  have s2 := str_size value
  unfold maxLen at hk hv
  by_cases h1 : 32 < key.length
  · have h1' : (32 : Int) < (key.length : Int) := by omega
    go_enter Tryz.func23, Tryz.ntmps23
    go_wp2
    exact bodyPost_ret (v := .tuple #[.agg #[.int .i64 0, .pointer none], .int .i64 3]) (by simp [results, Tryz.results23, go_sem]) rfl ⟨rfl, ((Below.refl _ _).alloc (Nat.le_refl _) _).alloc (by simp) _⟩
  · have h2 : 4096 < value.length := by omega
    have h1' : ¬ (32 : Int) < (key.length : Int) := by omega
    have h2' : (4096 : Int) < (value.length : Int) := by omega
    go_enter Tryz.func23, Tryz.ntmps23
    go_wp2
    exact bodyPost_ret (v := .tuple #[.agg #[.int .i64 0, .pointer none], .int .i64 3]) (by simp [results, Tryz.results23, go_sem]) rfl ⟨rfl, ((Below.refl _ _).alloc (Nat.le_refl _) _).alloc (by simp) _⟩

set_option maxHeartbeats 3200000 in
theorem put_keep (wd : Int) (q : Option Addr) (o : Option Tr) (key value : Key) (w : World) (hk : key.length ≤ 32) (hv : value.length ≤ 4096) (hp : ∀ t, o = some t → t.placed) (h : TopAt wd w (.pointer q) o) (he : getO key o = value) :
    Calls Tryz.prog 23 #[.agg #[.int .i64 wd, .pointer q], .string (str key), .string (str value)] w fun e w' => e = .returned (.tuple #[.agg #[.int .i64 wd, .pointer q], .int .i64 0]) ∧ Below w.heap.size w w' := by
  have s1 := str_size key
  have s2 := str_size value
  have h1' : ¬ (32 : Int) < (key.length : Int) := by omega
  have h2' : ¬ (4096 : Int) < (value.length : Int) := by omega
  have bA : Below w.heap.size w ((w.alloc (.cells #[.int .i64 wd, .pointer q] 34)).alloc (.cells #[.int .i64 0, .pointer none] 34)) := ((Below.refl _ _).alloc (Nat.le_refl _) _).alloc (by simp) _
  have kT := (Blk.new w #[.int .i64 wd, .pointer q] 34).alloc (.cells #[.int .i64 0, .pointer none] 34)
  have kR := Blk.new (w.alloc (.cells #[.int .i64 wd, .pointer q] 34)) #[.int .i64 0, .pointer none] 34
  rw [World.size_alloc] at kR
  have key1 := get_any wd (.pointer q) o key _ (by unfold maxLen; omega) hp (TopAt.below bA h)
  rw [he] at key1
  have l1 := str_toList value
  go_enter Tryz.func23, Tryz.ntmps23
  go_wp2_with fail
  generalize (w.alloc (.cells #[.int .i64 wd, .pointer q] 34)).alloc (.cells #[.int .i64 0, .pointer none] 34) = wA at *
  refine key1.mono ?_
  rintro e w1 ⟨rfl, b1⟩
  have B1 := bA.trans (b1.mono bA.size)
  have kT1 := kT.below b1 kT.lt
  have kR1 := kR.below b1 kR.lt
  have t0 := kT1.cell 0
  have t1 := kT1.cell 1
  have r0 := kR1.cell 0
  have r1 := kR1.cell 1
  have g0 := kR1.frozen 0
  have g1 := kR1.frozen 1
  have z1 := kT1.lt
  have z2 := kR1.lt
  simp only [List.getElem?_toArray, List.getElem?_cons_succ, List.getElem?_cons_zero] at t0 t1 r0 r1
  clear key1
  go_wp2
  exact bodyPost_ret (v := .tuple #[.agg #[.int .i64 wd, .pointer q], .int .i64 0]) (by simp [results, Tryz.results23, go_sem, t0, t1, r0, r1, g0, g1]) rfl ⟨rfl, (B1.setCell (p := ⟨w.heap.size + 1, 0, none⟩) (Nat.le_succ _) _).setCell (p := ⟨w.heap.size + 1, 1, none⟩) (Nat.le_succ _) _⟩
end Go.Proofs.YtmhllihedejehaaGreat
