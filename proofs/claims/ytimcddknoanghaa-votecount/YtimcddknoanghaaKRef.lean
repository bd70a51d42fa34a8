/- Why a vote can't be counted; where it stands; certs held against each other. -/
import Derived.Test.YtimcddknoanghaaKFor
namespace Go.Proofs.Ytimcddknoanghaa
open Go.RowKit Go.Maps
set_option linter.unusedVariables false
set_option linter.unusedSimpArgs false

def refP (E ht : Int) (x : List (Int × Int)) (h f : Int) : Int := if E ≠ 0 then E else if h ≠ ht then 19 else if hasP x f = true then 0 else 17

theorem placeOf_any (h r s : Int) (has : Bool) (bl f : Int) (w : World) :
    Calls Try.prog 24 #[.agg #[.int .i64 h, .int .i64 r, .int .i64 s, .bool has, .int .u64 bl, .int .i64 f]] w fun e w' => e = .returned (.agg #[.int .i64 r, .int .i64 s, .int .i64 f]) ∧ Below w.heap.size w w' := by
  have bA : Below w.heap.size w ((w.alloc (.cells #[.int .i64 h, .int .i64 r, .int .i64 s, .bool has, .int .u64 bl, .int .i64 f] 34)).alloc (.cells #[.int .i64 0, .int .i64 0, .int .i64 0] 60)) := ((Below.refl _ _).alloc (Nat.le_refl _) _).alloc (by simp) _
  go_enter Try.func24, Try.ntmps24
  go_wp2
  have k2 := Blk.new (w.alloc (.cells #[.int .i64 h, .int .i64 r, .int .i64 s, .bool has, .int .u64 bl, .int .i64 f] 34)) #[.int .i64 r, .int .i64 s, .int .i64 f] 60
  rw [World.size_alloc] at k2
  have y0 := (k2.cell 0).trans rfl
  have y1 := (k2.cell 1).trans rfl
  have y2 := (k2.cell 2).trans rfl
  refine bodyPost_ret (v := .agg #[.int .i64 r, .int .i64 s, .int .i64 f]) (by simp [results, Try.results24, go_sem, y0, y1, y2]) rfl ?_
  exact ⟨rfl, ((Below.refl _ _).alloc (Nat.le_refl _) _).alloc (by simp) _⟩

set_option maxRecDepth 8000 in
set_option maxHeartbeats 3200000 in
theorem refuses_any (cb : Nat) (sa : Option Addr) (sc : Nat) (x : List (Int × Int)) (ht h r s : Int) (has : Bool) (bl f : Int) (S : ByteArray) (E : Int) (w : World) (hx : x.length ≤ 64)
    (zc : cb < w.heap.size) (c0 : w.cell? ⟨cb, 0, none⟩ = some (.slice sa x.length sc)) (c1 : w.cell? ⟨cb, 1, none⟩ = some (.int .i64 ht)) (hS : SeatsAt w sa x)
    (K : ∀ y : World, Below w.heap.size w y → Calls Try.prog 43 #[.agg #[.int .i64 h, .int .i64 r, .int .i64 s, .bool has, .int .u64 bl, .int .i64 f]] y fun e w' => e = .returned (.tuple #[.string S, .int .i64 E]) ∧ Below y.heap.size y w') :
    Calls Try.prog 23 #[.pointer (some ⟨cb, 0, none⟩), .agg #[.int .i64 h, .int .i64 r, .int .i64 s, .bool has, .int .u64 bl, .int .i64 f]] w fun e w' => e = .returned (.int .i64 (refP E ht x h f)) ∧ Below w.heap.size w w' := by
  have bA : Below w.heap.size w (w.alloc (.cells #[.int .i64 h, .int .i64 r, .int .i64 s, .bool has, .int .u64 bl, .int .i64 f] 34)) := (Below.refl _ _).alloc (Nat.le_refl _) _
  have kV := Blk.new w #[.int .i64 h, .int .i64 r, .int .i64 s, .bool has, .int .u64 bl, .int .i64 f] 34
  have KA := K _ bA
  obtain ⟨P, HP⟩ : ∃ P, Hid (refP E ht x h f = P) := ⟨_, rfl⟩
  rw [HP.out]
  go_enter Try.func23, Try.ntmps23
  go_wp2_with fail
  refine KA.mono ?_
  rintro e w1 ⟨rfl, b1⟩
  have kV1 := kV.below b1 kV.lt
  have B1 := bA.trans (b1.mono bA.size)
  clear K KA kV b1 bA
  by_cases hE : E = 0
  rotate_left
  · have HF : P = E := by rw [← HP.out]; unfold refP; rw [if_pos hE]
    subst HF
    have hEd : (P != 0) = true := by simpa using hE
    clear HP
    go_wp2
    go_ret
    exact ⟨rfl, B1⟩
  · subst hE
    have HF : Hid (P = if h ≠ ht then 19 else if hasP x f = true then 0 else 17) := by show _ = _; rw [← HP.out]; unfold refP; rw [if_neg (by simp)]
    clear HP
    have v0 := (kV1.cell 0).trans rfl
    have v5 := (kV1.cell 5).trans rfl
    have zV := kV1.lt
    have d1 := (B1.cell (p := ⟨cb, 1, none⟩) zc).trans c1
    have zd := Nat.lt_of_lt_of_le zc B1.size
    by_cases hh : h = ht
    rotate_left
    · have HE : P = 19 := by rw [HF.out, if_pos hh]
      subst HE
      have hd : (h != ht) = true := by simpa using hh
      clear HF hh
      go_upto_region 4 with fail
      go_quiet (fail)
      go_wp2
      go_ret
      exact ⟨rfl, below_drewN B1 _⟩
    · subst hh
      have HF2 : Hid (P = if hasP x f = true then 0 else 17) := by show _ = _; rw [HF.out, if_neg (by simp)]
      have hd : (h != h) = false := by simp
      clear HF
      go_upto_region 4 with fail
      go_quiet (fail)
      have B2 := below_drewN B1 nq
      have kV2 : Blk (w1.drewN nq) w.heap.size #[.int .i64 h, .int .i64 r, .int .i64 s, .bool has, .int .u64 bl, .int .i64 f] 34 := kV1.below (below_drewN (Below.refl w1.heap.size w1) nq) kV1.lt
      clear kV1 v0 v5 d1
      generalize w1.drewN nq = w2 at *
      have D0 : ∀ w', Below w2.heap.size w2 w' → w'.cell? ⟨cb, 0, none⟩ = some (.slice sa x.length sc) := fun w' hb => ((B2.trans (hb.mono B2.size)).cell (p := ⟨cb, 0, none⟩) zc).trans c0
      have D5 : ∀ w', Below w2.heap.size w2 w' → w'.cell? ⟨w.heap.size, 5, none⟩ = some (.int .i64 f) := fun w' hb => ((kV2.below hb kV2.lt).cell 5).trans rfl
      have KH : ∀ w', Below w2.heap.size w2 w' → Calls Try.prog 44 #[.slice sa x.length sc, .int .i64 f] w' fun e w'' => e = .returned (.bool (hasP x f)) ∧ Below w'.heap.size w' w'' := fun w' hb => has_any sa sc x f w' (by unfold maxLen; omega) (hS.below (B2.trans (hb.mono B2.size)))
      obtain ⟨Z, hZ⟩ : ∃ Z, hasP x f = Z := ⟨_, rfl⟩
      rw [hZ] at KH
      have HF3 : Hid (P = if Z = true then 0 else 17) := by show _ = _; rw [HF2.out, hZ]
      have bw : Below w2.heap.size w2 w2 := Below.refl _ _
      have zv2 := kV2.lt
      have zc2 := Nat.lt_of_lt_of_le zc B2.size
      clear hZ HF2 zV zd hd
      go_upto_region 6 with fail
      go_region_held3 (fun w' => Below w2.heap.size w2 w') (repeat (first | exact bw.drew | exact hN3 | assumption | refine Below.drew ?_ | exact bw | exact Nat.le_refl _))
        (first
        | (go_at_call 44
           refine (KH _ (by assumption)).mono ?_
           rintro e w3 ⟨rfl, b3⟩
           have hN3 : Below w2.heap.size w2 w3 := Below.trans (by assumption) (b3.mono (Below.size (by assumption)))))
      all_goals
        cases Z with
        | true =>
          have HE : P = 0 := HF3.out
          subst HE
          clear HF3
          go_wp2
          go_ret
          exact ⟨rfl, B2.trans (hN3.mono B2.size)⟩
        | false =>
          have HE : P = 17 := by have := HF3.out; simpa using this
          subst HE
          clear HF3
          go_wp2
          go_ret
          exact ⟨rfl, B2.trans (hN3.mono B2.size)⟩

set_option maxRecDepth 8000 in
set_option maxHeartbeats 3200000 in
theorem sameCert_any (ht r s : Int) (has : Bool) (bl : Int) (fa ga : Option Addr) (fc gc : Nat) (fr : List Int) (w : World) (hl : fr.length ≤ 100000) (h1 : IntsAt w fa fr) (h2 : IntsAt w ga fr) :
    Calls Try.prog 11 #[.agg #[.int .i64 ht, .int .i64 r, .int .i64 s, .bool has, .int .u64 bl, .slice fa fr.length fc], .agg #[.int .i64 ht, .int .i64 r, .int .i64 s, .bool has, .int .u64 bl, .slice ga fr.length gc]] w fun e w' => e = .returned (.bool true) ∧ Below w.heap.size w w' := by
  have bA : Below w.heap.size w ((w.alloc (.cells #[.int .i64 ht, .int .i64 r, .int .i64 s, .bool has, .int .u64 bl, .slice fa fr.length fc] 42)).alloc (.cells #[.int .i64 ht, .int .i64 r, .int .i64 s, .bool has, .int .u64 bl, .slice ga fr.length gc] 42)) := ((Below.refl _ _).alloc (Nat.le_refl _) _).alloc (by simp) _
  have kA := (Blk.new w #[.int .i64 ht, .int .i64 r, .int .i64 s, .bool has, .int .u64 bl, .slice fa fr.length fc] 42).alloc (.cells #[.int .i64 ht, .int .i64 r, .int .i64 s, .bool has, .int .u64 bl, .slice ga fr.length gc] 42)
  have kB := Blk.new (w.alloc (.cells #[.int .i64 ht, .int .i64 r, .int .i64 s, .bool has, .int .u64 bl, .slice fa fr.length fc] 42)) #[.int .i64 ht, .int .i64 r, .int .i64 s, .bool has, .int .u64 bl, .slice ga fr.length gc] 42
  rw [World.size_alloc] at kB
  have n1 : (ht != ht) = false := by simp
  have n2 : (r != r) = false := by simp
  have n3 : (s != s) = false := by simp
  have n4 : (has != has) = false := by simp
  have n5 : (bl != bl) = false := by simp
  have n6 : ((fr.length : Int) != (fr.length : Int)) = false := by simp
  go_enter Try.func11, Try.ntmps11
  go_wp2_with fail
  generalize ((w.alloc (.cells #[.int .i64 ht, .int .i64 r, .int .i64 s, .bool has, .int .u64 bl, .slice fa fr.length fc] 42)).alloc (.cells #[.int .i64 ht, .int .i64 r, .int .i64 s, .bool has, .int .u64 bl, .slice ga fr.length gc] 42)) = wA at *
  go_loopw [5] (fun iv wv => ∃ i : Nat, i ≤ fr.length ∧ iv = .int .i64 i ∧ Below wA.heap.size wA wv) (fun iv _ => fr.length - (intOf iv).toNat)
  case atStart => exact ⟨0, Nat.zero_le _, rfl, Below.refl _ _⟩
  case round =>
    obtain ⟨i, hi, rfl, hb⟩ := hrel
    have hB := bA.trans (hb.mono bA.size)
    have kA1 := kA.below hb kA.lt
    have kB1 := kB.below hb kB.lt
    have a5 := (kA1.cell 5).trans rfl
    have b5 := (kB1.cell 5).trans rfl
    have za := kA1.lt
    have zb := kB1.lt
    by_cases hlt : i < fr.length
    · have hlt' : (i : Int) < (fr.length : Int) := by omega
      obtain ⟨b1, o1, e1, z1, q1⟩ := (h1.below hB).one hlt
      obtain ⟨b2, o2, e2, z2, q2⟩ := (h2.below hB).one hlt
      subst e1
      subst e2
      generalize fr[i] = f at *
      have hf : (f != f) = false := by simp
      go_upto_region 6 with fail
      go_quiet (fail)
      go_wp2
      exact ⟨⟨i + 1, by omega, by go_num, below_drewN hb _⟩, by simp [intOf]; omega⟩
    · have hge : ¬ (i : Int) < (fr.length : Int) := by omega
      go_wp2
      go_ret
      exact ⟨rfl, hB⟩
theorem sameCert_none (w : World) :
    Calls Try.prog 11 #[.agg #[.int .i64 0, .int .i64 0, .int .i64 0, .bool false, .int .u64 0, .slice none 0 0], .agg #[.int .i64 0, .int .i64 0, .int .i64 0, .bool false, .int .u64 0, .slice none 0 0]] w fun e w' => e = .returned (.bool true) ∧ Below w.heap.size w w' :=
  sameCert_any 0 0 0 false 0 none none 0 0 [] w (by simp) (.inl rfl) (.inl rfl)
end Go.Proofs.Ytimcddknoanghaa
