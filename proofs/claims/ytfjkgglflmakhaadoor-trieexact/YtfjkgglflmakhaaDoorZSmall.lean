/- The law's own functions: pick, small, way, sameProof; what is too long. -/
import Derived.Test.YtfjkgglflmakhaaDoorZProve
import Derived.BigQuiet
namespace Go.Proofs.YtfjkgglflmakhaaDoor
open Go.RowKit
set_option linter.unusedVariables false
set_option linter.unusedSimpArgs false

/-- What pick gives. -/
def pickP (c n : Int) : Int := if c < 0 then (-(c + 1)) % n else c % n
theorem pickP_bd (c n : Int) (hn : 1 ≤ n) : 0 ≤ pickP c n ∧ pickP c n < n := by
  unfold pickP
  split
  · exact ⟨Int.emod_nonneg _ (by omega), Int.emod_lt_of_pos _ (by omega)⟩
  · exact ⟨Int.emod_nonneg _ (by omega), Int.emod_lt_of_pos _ (by omega)⟩
def InN (y : Int) : Prop := -9223372036854775808 ≤ y ∧ y ≤ 9223372036854775807

theorem pick_fn (c n : Int) (w : World) (hc : InN c) (hn : 1 ≤ n ∧ n ≤ 9223372036854775807) :
    Calls Tryd.prog 5 #[.int .i64 c, .int .i64 n] w fun e w' => e = .returned (.int .i64 (pickP c n)) ∧ w = w' := by
  unfold InN at hc
  by_cases h : c < 0
  · have hq := Int.emod_nonneg (-(c + 1)) (show n ≠ 0 by omega)
    have hq2 := Int.emod_lt_of_pos (-(c + 1)) (show 0 < n by omega)
    have HP : Hid (pickP c n = -(c + 1) % n) := by show _ = _; unfold pickP; rw [if_pos h]
    go_enter Tryd.func5, Tryd.ntmps5
    go_wp2
    go_ret
    have e : -((c + 1).tmod n) = -(c + 1) % n := by rw [← Int.neg_tmod, Int.tmod_eq_emod_of_nonneg (by omega)]
    exact ⟨by rw [HP.out, ← e]; rfl, rfl⟩
  · have hq := Int.emod_nonneg c (show n ≠ 0 by omega)
    have hq2 := Int.emod_lt_of_pos c (show 0 < n by omega)
    have HP : Hid (pickP c n = c % n) := by show _ = _; unfold pickP; rw [if_neg h]
    go_enter Tryd.func5, Tryd.ntmps5
    go_wp2
    go_ret
    exact ⟨by rw [HP.out]; rfl, rfl⟩

theorem prove_longZ (wd : Int) (q : Option Addr) (key : Key) (w : World) (hk : 32 < key.length) (hm : key.length ≤ maxLen) :
    Calls Tryd.prog 16 #[.agg #[.int .i64 wd, .pointer q], .string (str key)] w fun e w' => e = .returned (.tuple #[.agg #[.slice none 0 0, .bool false, .string ⟨#[]⟩, .string ⟨#[]⟩], .int .i64 3]) ∧ Below w.heap.size w w' := by
  have hs := str_size key
  unfold maxLen at hm
  have hk' : (32 : Int) < (key.length : Int) := by omega
  go_enter Tryd.func16, Tryd.ntmps16
  go_wp2
  exact bodyPost_ret (v := .tuple #[.agg #[.slice none 0 0, .bool false, .string ⟨#[]⟩, .string ⟨#[]⟩], .int .i64 3]) (by simp [results, Tryd.results16, go_sem]) rfl ⟨rfl, by first | exact ((Below.refl _ _).alloc (Nat.le_refl _) _).alloc (by simp) _ | exact (Below.refl _ _).alloc (Nat.le_refl _) _⟩

theorem rprove_long (wd : Int) (la : Option Addr) (n c : Nat) (key : Key) (w : World) (hk : 32 < key.length) (hm : key.length ≤ maxLen) :
    Calls Tryd.prog 17 #[.agg #[.int .i64 wd, .slice la n c], .string (str key)] w fun e w' => e = .returned (.tuple #[.agg #[.slice none 0 0, .bool false, .string ⟨#[]⟩, .string ⟨#[]⟩], .int .i64 3]) ∧ Below w.heap.size w w' := by
  have hs := str_size key
  unfold maxLen at hm
  have hk' : (32 : Int) < (key.length : Int) := by omega
  go_enter Tryd.func17, Tryd.ntmps17
  go_wp2
  exact bodyPost_ret (v := .tuple #[.agg #[.slice none 0 0, .bool false, .string ⟨#[]⟩, .string ⟨#[]⟩], .int .i64 3]) (by simp [results, Tryd.results17, go_sem]) rfl ⟨rfl, by first | exact ((Below.refl _ _).alloc (Nat.le_refl _) _).alloc (by simp) _ | exact (Below.refl _ _).alloc (Nat.le_refl _) _⟩

theorem str_end (s : Key) (x : UInt8) : str s ++ ⟨#[x]⟩ = str (s ++ [x]) := by
  unfold str
  apply ByteArray.ext
  simp [ByteArray.data_append]
/-- A way, of a number. -/
def wayF : Nat → Nat → Key
  | 0, _ => []
  | f + 1, n => if n ≤ 1 then [] else (48 + UInt8.ofNat (n % 2)) :: wayF f (n / 2)
def lwP (c : Int) : Key := wayF 12 (pickP c 4096).toNat
theorem wayF_len : ∀ f n, (wayF f n).length ≤ f
  | 0, _ => Nat.le_refl _
  | f + 1, n => by
    unfold wayF
    split
    · simp
    · have := wayF_len f (n / 2); simp; omega
theorem wayF_one (f n : Nat) (h : n ≤ 1) : wayF f n = [] := by
  cases f with
  | zero => rfl
  | succ f => unfold wayF; rw [if_pos h]

set_option maxHeartbeats 1600000 in
theorem way_any (c : Int) (w : World) (hc : InN c) :
    Calls Tryd.prog 21 #[.int .i64 c] w fun e w' => e = .returned (.string (str (lwP c))) ∧ Below w.heap.size w w' := by
  have hcv := conv_one (P := Tryd.prog) 88 9 5 Tryd.underlying88 Tryd.underlying5 Tryd.underlying9
  have KP := pick_fn c 4096 w hc (by omega)
  have hb := pickP_bd c 4096 (by omega)
  obtain ⟨n0, HN⟩ : ∃ n0 : Nat, Hid (pickP c 4096 = (n0 : Int)) := ⟨(pickP c 4096).toNat, by show _ = _; omega⟩
  have HW : Hid (lwP c = wayF 12 n0) := by show _ = _; unfold lwP; rw [HN.out]; rfl
  rw [HN.out] at KP hb
  clear HN
  go_enter Tryd.func21, Tryd.ntmps21
  go_wp2_with fail
  refine KP.mono ?_
  rintro e w1 ⟨rfl, rfl⟩
  go_wp2_with fail
  go_loopw [0, 3] (fun nv sv wv => ∃ (n f : Nat) (s : Key), nv = .int .i64 n ∧ sv = .string (str s) ∧ n ≤ 4096 ∧ s.length ≤ 12 ∧ Hid (n < 2 ^ f ∧ s.length + f ≤ 12 ∧ s ++ wayF f n = lwP c) ∧ Below w.heap.size w wv) (fun nv _ _ => (intOf nv).toNat)
  case atStart => exact ⟨n0, 12, [], rfl, rfl, by omega, by simp, ⟨by omega, by simp, by rw [HW.out]; rfl⟩, Below.refl _ _⟩
  case round =>
    obtain ⟨n, f, s, rfl, rfl, hn, hsl, HS, hbw⟩ := hrel
    by_cases h1 : 1 < n
    · have h1' : (1 : Int) < (n : Int) := by omega
      have q1 : (n : Int).tmod 2 = (n % 2 : Nat) := by rw [Int.tmod_eq_emod_of_nonneg (by omega)]; omega
      have q2 : (n : Int).tdiv 2 = (n / 2 : Nat) := by rw [Int.tdiv_eq_ediv_of_nonneg (by omega)]; omega
      have hs := str_size s
      obtain ⟨g, rfl⟩ : ∃ g, f = g + 1 := by
        cases f with
        | zero => have := HS.out.1; simp at this; omega
        | succ g => exact ⟨g, rfl⟩
      have HS2 : Hid (n / 2 < 2 ^ g ∧ (s ++ [48 + UInt8.ofNat (n % 2)]).length + g ≤ 12 ∧ (s ++ [48 + UInt8.ofNat (n % 2)]) ++ wayF g (n / 2) = lwP c) := by
        obtain ⟨a1, a2, a3⟩ := HS.out
        refine ⟨by rw [Nat.pow_succ] at a1; omega, by simp; omega, ?_⟩
        rw [← a3]
        have : wayF (g + 1) n = (48 + UInt8.ofNat (n % 2)) :: wayF g (n / 2) := by
          rw [wayF, if_neg (by omega)]
        rw [this]; simp
      have hlen2 : (s ++ [48 + UInt8.ofNat (n % 2)]).length ≤ 12 := by have := HS2.out.2.1; omega
      have hm2 : n % 2 < 2 := Nat.mod_lt _ (by omega)
      clear HS
      go_wp2
      exact ⟨⟨n / 2, g, s ++ [48 + UInt8.ofNat (n % 2)], congrArg _ (by omega), congrArg Value.string (str_end s _), by omega, hlen2, HS2, hbw.alloc hbw.size _⟩, by simp [intOf]; omega⟩
    · have h1' : ¬ (1 : Int) < (n : Int) := by omega
      have HE : Hid (lwP c = s) := by show _ = _; rw [← HS.out.2.2, wayF_one f n (by omega), List.append_nil]
      clear HS
      go_wp2
      go_ret
      exact ⟨by rw [HE.out]; rfl, hbw⟩

set_option maxRecDepth 4000 in
set_option maxHeartbeats 3200000 in
theorem sameProof_same (p : Pf) (la lb : Option Addr) (ca cb : Nat) (w : World) (hl : p.tu.length ≤ 1000000) (h1 : TurnsAt w la p.tu) (h2 : TurnsAt w lb p.tu) :
    Calls Tryd.prog 18 #[pfV la ca p, pfV lb cb p] w fun e w' => e = .returned (.bool true) ∧ Below w.heap.size w w' := by
  unfold pfV
  have e1 := beq_self_eq_true (str p.key).toList
  have e2 := beq_self_eq_true (str p.val).toList
  have bA : Below w.heap.size w ((w.alloc (.cells #[.slice la p.tu.length ca, .bool p.leaf, .string (str p.key), .string (str p.val)] 47)).alloc (.cells #[.slice lb p.tu.length cb, .bool p.leaf, .string (str p.key), .string (str p.val)] 47)) := ((Below.refl _ _).alloc (Nat.le_refl _) _).alloc (by simp) _
  have kA := (Blk.new w #[.slice la p.tu.length ca, .bool p.leaf, .string (str p.key), .string (str p.val)] 47).alloc (.cells #[.slice lb p.tu.length cb, .bool p.leaf, .string (str p.key), .string (str p.val)] 47)
  have kB := Blk.new (w.alloc (.cells #[.slice la p.tu.length ca, .bool p.leaf, .string (str p.key), .string (str p.val)] 47)) #[.slice lb p.tu.length cb, .bool p.leaf, .string (str p.key), .string (str p.val)] 47
  rw [World.size_alloc] at kB
  have t1 := h1.below bA
  have t2 := h2.below bA
  clear h1 h2
  generalize p.tu = T at *
  generalize str p.key = K at *
  generalize str p.val = V at *
  generalize p.leaf = L at *
  cases L
  all_goals
    go_enter Tryd.func18, Tryd.ntmps18
    go_upto_region 1 with fail
    generalize (w.alloc _).alloc _ = w1 at *
    have a0 := (kA.cell 0).trans rfl
    have a1 := (kA.cell 1).trans rfl
    have a2 := (kA.cell 2).trans rfl
    have a3 := (kA.cell 3).trans rfl
    have za := kA.lt
    have b0 := (kB.cell 0).trans rfl
    have b1 := (kB.cell 1).trans rfl
    have b2 := (kB.cell 2).trans rfl
    have b3 := (kB.cell 3).trans rfl
    have zb := kB.lt
    go_wp2_with fail
    go_loopw [5] (fun iv wv => ∃ i : Nat, i ≤ T.length ∧ iv = .int .i64 i ∧ Below w1.heap.size w1 wv) (fun iv _ => T.length - (intOf iv).toNat)
    case atStart => exact ⟨0, Nat.zero_le _, rfl, Below.refl _ _⟩
    case round =>
      obtain ⟨i, hi, rfl, hb⟩ := hrel
      clear a0 a1 a2 a3 za b0 b1 b2 b3 zb
      have kA2 := kA.below hb kA.lt
      have kB2 := kB.below hb kB.lt
      have a0 := (kA2.cell 0).trans rfl
      have za := kA2.lt
      have b0 := (kB2.cell 0).trans rfl
      have zb := kB2.lt
      by_cases hlt : i < T.length
      · have hlt' : (i : Int) < (T.length : Int) := by omega
        rcases TurnsAt.below t1 hb with h0 | ⟨x1, o1, ex1, z1, c1⟩
        · rw [h0] at hlt; simp at hlt
        rcases TurnsAt.below t2 hb with h0 | ⟨x2, o2, ex2, z2, c2⟩
        · rw [h0] at hlt; simp at hlt
        subst ex1 ex2
        obtain ⟨p1, p2⟩ := c1 i _ (List.getElem?_eq_getElem hlt)
        obtain ⟨q1, q2⟩ := c2 i _ (List.getElem?_eq_getElem hlt)
        generalize T[i] = X at *
        clear c1 c2 t1 t2 kA kB
        go_upto_region 6 with fail
        go_quiet (fail)
        go_wp2
        exact ⟨⟨i + 1, by omega, by go_num, below_drewN hb _⟩, by simp [intOf]; omega⟩
      · have hge : ¬ (i : Int) < (T.length : Int) := by omega
        have hB := bA.trans (hb.mono bA.size)
        go_wp2
        go_ret
        exact ⟨rfl, hB⟩
end Go.Proofs.YtfjkgglflmakhaaDoor
