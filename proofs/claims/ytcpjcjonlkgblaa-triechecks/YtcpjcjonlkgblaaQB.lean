/- The answer's climb and Check, of any proof. -/
import Derived.Test.YtcpjcjonlkgblaaQA
import Derived.Test.YtcpjcjonlkgblaaM44
import Derived.Test.YtcpjcjonlkgblaaPClash
import Derived.Test.YtcpjcjonlkgblaaM49
import Derived.Test.YtcpjcjonlkgblaaPTurned
import Derived.Test.YtcpjcjonlkgblaaM51
import Derived.Test.YtcpjcjonlkgblaaM11
import Derived.Test.YtcpjcjonlkgblaaM46

namespace Go.Proofs.Ytcpjcjonlkgblaa
open Go.RowKit
set_option linter.unusedVariables false
set_option linter.unusedSimpArgs false

theorem bare_no (p : Pf) (h : putE p = 0) (hl : p.leaf = false) : p.tu = [] := by
  obtain ⟨h1, h2⟩ := putE_zero p h
  simp only [W.Proof.may, Pf.thing, hl, Bool.false_eq_true, if_false, Bool.and_eq_true, decide_eq_true_eq] at h2
  have h3 := h2
  cases ht : p.tu with
  | nil => rfl
  | cons t r =>
    exfalso
    simp [ht] at h3

theorem rput_proof (la : Option Addr) (cap : Nat) (p : Pf) (w : World) (h : PfIn w la cap p) (hl : p.tu.length ≤ 1000000) (hs1 : p.key.length ≤ 1000000) (hs2 : p.val.length ≤ 1000000) : ∀ w', Below w.heap.size w w' → Calls Try.prog 41 #[pfV la cap p] w' fun e w'' => (∃ s, e = .returned (.tuple #[.string s, .int .i64 (putE p)])) ∧ Below w'.heap.size w' w'' := fun w' hb => by
  have h1 := W.rputProof_anyX (p.thing la cap) w' (by have := wtP la cap p; omega) (h.below hb).goods
  simp only [Pf.thing, List.length_map] at h1
  exact h1.mono fun e w'' ⟨h2, h3⟩ => ⟨⟨_, h2⟩, h3⟩

set_option maxRecDepth 8000 in
set_option maxHeartbeats 800000 in
theorem rclimb_any (wd : Int) (key : Key) (la : Option Addr) (cap : Nat) (p : Pf) (w : World) (hw : okW wd) (hk : key.length ≤ 32) (h : PfIn w la cap p) (hl : p.tu.length ≤ 1000000) (hs1 : p.key.length ≤ 1000000) (hs2 : p.val.length ≤ 1000000) :
    Calls Try.prog 28 #[.int .i64 wd, .string (str key), pfV la cap p] w fun e w' => CLP wd key p w e w' := by
  have KP := rput_proof la cap p w h hl hs1 hs2
  have hbare := bare_no p
  have hfit := put_fits p
  have hkk := h.key
  have hvv := h.val
  have heach := h.each
  have hT := h.turns
  obtain ⟨lf, pk, pv, tu⟩ := p
  unfold pfV at KP ⊢
  simp only at KP hl hs1 hs2 hkk hvv heach hT hbare ⊢
  obtain ⟨PE, HPE⟩ : ∃ z, Hid (putE ⟨lf, pk, pv, tu⟩ = z) := ⟨_, rfl⟩
  by_cases hz : putE ⟨lf, pk, pv, tu⟩ = 0
  · cases lf with
    | true =>
      rw [hz] at KP
      exact rclimb_leaf wd key la cap tu pk pv w hw hk hkk hvv hl hT (fun t ht => ⟨(hfit hz).2.1 t ht, (heach t ht).2⟩) hz KP
    | false =>
      have htu := hbare hz rfl
      have HM : Hid (mayE key ⟨false, pk, pv, tu⟩ = 0) := by
        show _ = _
        unfold mayE
        rw [if_pos hz]
        rw [htu]
        rfl
      rw [hz] at KP
      have hs := str_size key
      have hk' : ¬ ((key.length : Int) > 32) := by omega
      have bA : Below w.heap.size w (w.alloc (.cells #[.slice la tu.length cap, .bool false, .string (str pk), .string (str pv)] 25)) := (Below.refl _ _).alloc (Nat.le_refl _) _
      have kP := Blk.new w #[.slice la tu.length cap, .bool false, .string (str pk), .string (str pv)] 25
      clear hz hbare hfit htu HPE
      go_enter Try.func28, Try.ntmps28
      go_wp2_with fail
      generalize w.alloc (.cells #[.slice la tu.length cap, .bool false, .string (str pk), .string (str pv)] 25) = wA at *
      refine (KP wA bA).mono ?_
      rintro e w1 ⟨⟨s1, rfl⟩, b1⟩
      have k1 := kP.below b1 kP.lt
      have c1 := (k1.cell 1).trans rfl
      have z1 := k1.lt
      have B1 := bA.trans (b1.mono bA.size)
      clear KP kP
      go_wp2_with fail
      refine (whole_none 0 w1).mono ?_
      rintro e w2 ⟨v2, rfl, ⟨a2, c2, rfl, hS2⟩, b2⟩
      have B2 := B1.trans (b2.mono B1.size)
      have kN := Blk.new (w2.alloc (.cells #[.int .i64 5, .slice a2 0 c2] 47)) #[.int .i64 5, .slice a2 0 c2] 47
      rw [World.size_alloc] at kN
      have b3 : Below w2.heap.size w2 ((w2.alloc (.cells #[.int .i64 5, .slice a2 0 c2] 47)).alloc (.cells #[.int .i64 5, .slice a2 0 c2] 47)) := ((Below.refl _ _).alloc (Nat.le_refl _) _).alloc (by simp) _
      have hS3 := hS2.below b3
      have B3 := B2.trans (b3.mono B2.size)
      have hfin : CLP wd key ⟨false, pk, pv, tu⟩ w (.returned (.tuple #[.slice (some ⟨w2.heap.size + 1, 0, none⟩) 1 1, .int .i64 0])) ((w2.alloc (.cells #[.int .i64 5, .slice a2 0 c2] 47)).alloc (.cells #[.int .i64 5, .slice a2 0 c2] 47)) := by
        refine ⟨_, by rw [HM.out]; rfl, fun _ => ⟨[⟨5, a2, c2, []⟩], ⟨?_, w2.heap.size + 1, 1, _, rfl, Nat.le_refl _, by decide, kN, ?_⟩, rfl, by simp⟩, B3⟩
        · intro e he
          simp only [List.mem_singleton] at he
          subst he
          exact ⟨hS3, by simp⟩
        · intro m hm
          obtain rfl : m = 0 := by simp at hm; omega
          exact ⟨rfl, rfl⟩
      simp only [List.length_nil]
      go_wp2
      go_ret2
      exact hfin
  · have HM : Hid (mayE key ⟨lf, pk, pv, tu⟩ = PE) := by
      show _ = _
      unfold mayE
      rw [if_neg hz]
      exact HPE.out
    have hne : PE ≠ 0 := by rw [← HPE.out]; exact hz
    have hPd : (PE != 0) = true := by simpa using hne
    rw [HPE.out] at KP
    have hs := str_size key
    have hk' : ¬ ((key.length : Int) > 32) := by omega
    have bA : Below w.heap.size w (w.alloc (.cells #[.slice la tu.length cap, .bool lf, .string (str pk), .string (str pv)] 25)) := (Below.refl _ _).alloc (Nat.le_refl _) _
    clear hz hbare hfit HPE
    go_enter Try.func28, Try.ntmps28
    go_wp2_with fail
    generalize w.alloc (.cells #[.slice la tu.length cap, .bool lf, .string (str pk), .string (str pv)] 25) = wA at *
    refine (KP wA bA).mono ?_
    rintro e w1 ⟨⟨s1, rfl⟩, b1⟩
    have B1 := bA.trans (b1.mono bA.size)
    have hfin : CLP wd key ⟨lf, pk, pv, tu⟩ w (.returned (.tuple #[.slice none 0 0, .int .i64 PE])) w1 := by
      unfold CLP
      rw [HM.out]
      exact ⟨_, rfl, fun h0 => absurd h0 hne, B1⟩
    clear KP
    go_wp2
    go_ret2
    exact hfin

theorem len_of {E : List Ent} {l : List (Int × List ByteArray)} (h : E.map Ent.img = l.reverse) : E.length = l.length := by
  have := congrArg List.length h
  simpa using this
/-- What Check says: the value, and the error. -/
theorem shownE_may (wd root : Int) (key : Key) (p : Pf) (h : mayE key p ≠ 0) : shownE wd root key p = mayE key p := by unfold shownE; rw [if_neg h]
set_option maxRecDepth 8000 in
set_option maxHeartbeats 800000 in
theorem rcheck_any (wd root : Int) (key : Key) (la : Option Addr) (cap : Nat) (p : Pf) (w : World) (hw : okW wd) (hk : key.length ≤ 32) (h : PfIn w la cap p) (hl : p.tu.length ≤ 1000000) (hs1 : p.key.length ≤ 1000000) (hs2 : p.val.length ≤ 1000000) :
    Calls Try.prog 12 #[.int .i64 wd, .int .u64 root, .string (str key), pfV la cap p] w fun e w' => e = .returned (.tuple #[.string (str (checkV wd root key p)), .int .i64 (shownE wd root key p)]) ∧ Below w.heap.size w w' := by
  have KC : ∀ w', Below w.heap.size w w' → Calls Try.prog 28 #[.int .i64 wd, .string (str key), pfV la cap p] w' fun e w'' => CLP wd key p w' e w'' := fun w' hb => rclimb_any wd key la cap p w' hw hk (h.below hb) hl hs1 hs2
  unfold pfV at KC ⊢
  have bA : Below w.heap.size w (w.alloc (.cells #[.slice la p.tu.length cap, .bool p.leaf, .string (str p.key), .string (str p.val)] 25)) := (Below.refl _ _).alloc (Nat.le_refl _) _
  have kP := Blk.new w #[.slice la p.tu.length cap, .bool p.leaf, .string (str p.key), .string (str p.val)] 25
  go_enter Try.func12, Try.ntmps12
  go_wp2_with fail
  generalize w.alloc (.cells #[.slice la p.tu.length cap, .bool p.leaf, .string (str p.key), .string (str p.val)] 25) = wA at *
  refine (KC wA bA).mono ?_
  rintro e w1 ⟨v, rfl, hI, b1⟩
  have k1 := kP.below b1 kP.lt
  have B1 := bA.trans (b1.mono bA.size)
  have c2 := (k1.cell 2).trans rfl
  have c3 := (k1.cell 3).trans rfl
  have zP := k1.lt
  clear KC kP
  by_cases hm : mayE key p = 0
  · obtain ⟨E, hE, hmap, hEl⟩ := hI hm
    rw [hm]
    have hlen : 0 < E.length := by
      have : E.length = (wayP wd p).length := len_of hmap
      rw [this]
      unfold wayP
      split <;> simp
    obtain ⟨g, gc, rfl, hg, e0, e1⟩ := hE.at (E.length - 1) (by omega)
    have hSt := (hE.1 _ (List.getElem_mem (show E.length - 1 < E.length by omega)))
    have himg : (E[E.length - 1].tag, E[E.length - 1].ss) = if p.leaf then (5, [str (be (upsD wd p.key p.val p.tu) 8)]) else (5, []) := by
      have h1 : (E.map Ent.img)[E.length - 1]? = some (E[E.length - 1].tag, E[E.length - 1].ss) := by
        rw [List.getElem?_map, List.getElem?_eq_getElem (by omega)]
        rfl
      have h7 : E.length = (wayP wd p).length := len_of hmap
      rw [hmap, List.getElem?_reverse (by omega)] at h1
      have h2 : (wayP wd p).length - 1 - (E.length - 1) = 0 := by
        have : E.length = (wayP wd p).length := len_of hmap
        omega
      rw [h2] at h1
      have h3 : (wayP wd p)[0]? = some (if p.leaf then (5, [str (be (upsD wd p.key p.val p.tu) 8)]) else (5, [])) := by
        unfold wayP
        split <;> simp_all
      rw [h3] at h1
      injection h1 with h1
      exact h1.symm
    have hdig : ofP wd E[E.length - 1].tag E[E.length - 1].ss = headD wd p := by
      have h1 : E[E.length - 1].tag = (if p.leaf then ((5 : Int), [str (be (upsD wd p.key p.val p.tu) 8)]) else (5, [])).1 := by rw [← himg]
      have h2 : E[E.length - 1].ss = (if p.leaf then ((5 : Int), [str (be (upsD wd p.key p.val p.tu) 8)]) else (5, [])).2 := by rw [← himg]
      rw [h1, h2]
      unfold headD
      split <;> rfl
    have HD : Hid (ofP wd E[E.length - 1].tag E[E.length - 1].ss = headD wd p) := hdig
    have x3 : ((E.length : Int) - 1).toNat = E.length - 1 := by omega
    have x4 : (1 : Int) ≤ (E.length : Int) := by omega
    clear himg hdig hmap hI hE
    have hS1 := hSt.1
    have hS2 := hSt.2
    clear hSt
    generalize E[E.length - 1] = ex at *
    obtain ⟨tx, ax, cx, sx⟩ := ex
    simp only at e0 e1 hS1 hS2 HD
    go_wp2_with fail
    refine (imgDig_any wd tx sx _ w1 hw (by unfold maxLen; omega) ⟨_, _, rfl, hS1⟩).mono ?_
    rintro e w2 ⟨rfl, b2⟩
    rw [HD.out]
    have k2 := k1.below b2 k1.lt
    have B2 := B1.trans (b2.mono B1.size)
    clear c2 c3 zP e0 e1
    have c2 := (k2.cell 2).trans rfl
    have c3 := (k2.cell 3).trans rfl
    have zP := k2.lt
    have s1 := str_toList key
    have s2 := str_toList p.key
    by_cases hr : headD wd p = root
    · have HS : Hid (shownE wd root key p = 0) := by show _ = _; unfold shownE; rw [if_pos hm, if_pos hr]
      rw [hr]
      by_cases hkk : p.key = key
      · have HV : Hid (checkV wd root key p = p.val) := by show _ = _; unfold checkV shownV; rw [if_pos HS.out, if_pos hkk]
        have hfin : (Ending.returned (.tuple #[.string (str p.val), .int .i64 0])) = Ending.returned (.tuple #[.string (str (checkV wd root key p)), .int .i64 (shownE wd root key p)]) ∧ Below w.heap.size w w2 := ⟨by rw [HS.out, HV.out], B2⟩
        have hkd : (p.key == key) = true := by simpa using hkk
        clear hm HD HS HV hr
        go_wp2
        go_ret2
        exact hfin
      · have HV : Hid (checkV wd root key p = []) := by show _ = _; unfold checkV shownV; rw [if_pos HS.out, if_neg hkk]
        have hfin : (Ending.returned (.tuple #[.string ⟨#[]⟩, .int .i64 0])) = Ending.returned (.tuple #[.string (str (checkV wd root key p)), .int .i64 (shownE wd root key p)]) ∧ Below w.heap.size w w2 := ⟨by rw [HS.out, HV.out]; rfl, B2⟩
        have hkd : (p.key == key) = false := by simpa using hkk
        clear hm HD HS HV hr
        go_wp2
        go_ret2
        exact hfin
    · have HS : Hid (shownE wd root key p = 5) := by show _ = _; unfold shownE; rw [if_pos hm, if_neg hr]
      have HV : Hid (checkV wd root key p = []) := by show _ = _; unfold checkV; rw [if_neg (by rw [HS.out]; decide)]
      have hfin : (Ending.returned (.tuple #[.string ⟨#[]⟩, .int .i64 5])) = Ending.returned (.tuple #[.string (str (checkV wd root key p)), .int .i64 (shownE wd root key p)]) ∧ Below w.heap.size w w2 := ⟨by rw [HS.out, HV.out]; rfl, B2⟩
      have hrd : (headD wd p != root) = true := by simpa using hr
      clear hm HD HS HV
      generalize headD wd p = HH at *
      go_wp2
      go_ret2
      exact hfin
  · have HS : Hid (shownE wd root key p = mayE key p) := shownE_may wd root key p hm
    have HV : Hid (checkV wd root key p = []) := by show _ = _; unfold checkV; rw [if_neg (by rw [HS.out]; exact hm)]
    obtain ⟨M, HMM⟩ : ∃ z, Hid (mayE key p = z) := ⟨_, rfl⟩
    rw [HMM.out]
    have hMd : (M != 0) = true := by rw [← HMM.out]; simpa using hm
    have hfin : (Ending.returned (.tuple #[.string ⟨#[]⟩, .int .i64 M])) = Ending.returned (.tuple #[.string (str (checkV wd root key p)), .int .i64 (shownE wd root key p)]) ∧ Below w.heap.size w w1 := ⟨by rw [HS.out, HV.out, HMM.out]; rfl, B1⟩
    clear hm hI
    go_wp2
    go_ret2
    exact hfin
end Go.Proofs.Ytcpjcjonlkgblaa

namespace Go.Proofs.Ytcpjcjonlkgblaa
open Go.RowKit
set_option linter.unusedVariables false
set_option linter.unusedSimpArgs false

/-- What Clash tells. -/
noncomputable def clashP (wd root : Int) (key : Key) (p q : Pf) : Option ((Int × List ByteArray) × (Int × List ByteArray)) := @ite _ (shownE wd root key p = 0 ∧ shownE wd root key q = 0 ∧ shownV key p ≠ shownV key q) (Classical.propDecidable _) (firstUn (wayP wd p) (wayP wd q)) none
theorem clashP_some {wd root : Int} {key : Key} {p q : Pf} (h : shownE wd root key p = 0 ∧ shownE wd root key q = 0 ∧ shownV key p ≠ shownV key q) : clashP wd root key p q = firstUn (wayP wd p) (wayP wd q) := by unfold clashP; rw [if_pos h]
theorem clashP_none {wd root : Int} {key : Key} {p q : Pf} (h : ¬ (shownE wd root key p = 0 ∧ shownE wd root key q = 0 ∧ shownV key p ≠ shownV key q)) : clashP wd root key p q = none := by unfold clashP; rw [if_neg h]
theorem check_shown {wd root : Int} {key : Key} {p : Pf} (h : shownE wd root key p = 0) : checkV wd root key p = shownV key p := by unfold checkV; rw [if_pos h]

set_option maxRecDepth 8000 in
set_option maxHeartbeats 1600000 in
theorem rclash_any (wd root : Int) (key : Key) (lp lq : Option Addr) (cp cq : Nat) (p q : Pf) (w : World) (hw : okW wd) (hk : key.length ≤ 32) (hp : PfIn w lp cp p) (hq : PfIn w lq cq q) (hl : p.tu.length ≤ 1000000) (hs1 : p.key.length ≤ 1000000) (hs2 : p.val.length ≤ 1000000) (hl' : q.tu.length ≤ 1000000) (hs1' : q.key.length ≤ 1000000) (hs2' : q.val.length ≤ 1000000) :
    Calls Try.prog 15 #[.int .i64 wd, .int .u64 root, .string (str key), pfV lp cp p, pfV lq cq q] w fun e w' => ∃ v, e = .returned v ∧ Told3 w' (clashP wd root key p q) v ∧ Below w.heap.size w w' := by
  have KP := fun w' (hb : Below w.heap.size w w') => rcheck_any wd root key lp cp p w' hw hk (hp.below hb) hl hs1 hs2
  have KQ := fun w' (hb : Below w.heap.size w w') => rcheck_any wd root key lq cq q w' hw hk (hq.below hb) hl' hs1' hs2'
  have LP := fun w' (hb : Below w.heap.size w w') => rclimb_any wd key lp cp p w' hw hk (hp.below hb) hl hs1 hs2
  have LQ := fun w' (hb : Below w.heap.size w w') => rclimb_any wd key lq cq q w' hw hk (hq.below hb) hl' hs1' hs2'
  unfold pfV at KP KQ LP LQ ⊢
  obtain ⟨wA, HwA⟩ : ∃ x, Hid (x = ((((w.alloc (.cells #[.slice lp p.tu.length cp, .bool p.leaf, .string (str p.key), .string (str p.val)] 25)).alloc (.cells #[.slice lq q.tu.length cq, .bool q.leaf, .string (str q.key), .string (str q.val)] 25)).alloc (.cells #[.int .i64 0, .slice none 0 0] 47)).alloc (.cells #[.int .i64 0, .slice none 0 0] 47))) := ⟨_, rfl⟩
  have bA : Below w.heap.size w wA := by rw [HwA.out]; exact ((((Below.refl _ _).alloc (Nat.le_refl _) _).alloc (by simp) _).alloc (by simp; omega) _).alloc (by simp; omega) _
  have kP : Blk wA w.heap.size #[.slice lp p.tu.length cp, .bool p.leaf, .string (str p.key), .string (str p.val)] 25 := by
    rw [HwA.out]
    exact (((Blk.new w #[.slice lp p.tu.length cp, .bool p.leaf, .string (str p.key), .string (str p.val)] 25).alloc _).alloc _).alloc _
  have kQ : Blk wA (w.heap.size + 1) #[.slice lq q.tu.length cq, .bool q.leaf, .string (str q.key), .string (str q.val)] 25 := by
    rw [HwA.out]
    have h0 := ((Blk.new (w.alloc (.cells #[.slice lp p.tu.length cp, .bool p.leaf, .string (str p.key), .string (str p.val)] 25)) #[.slice lq q.tu.length cq, .bool q.leaf, .string (str q.key), .string (str q.val)] 25).alloc (.cells #[.int .i64 0, .slice none 0 0] 47)).alloc (.cells #[.int .i64 0, .slice none 0 0] 47)
    simp only [World.size_alloc] at h0
    exact h0
  have kR1 : Blk wA (w.heap.size + 2) #[.int .i64 0, .slice none 0 0] 47 := by
    rw [HwA.out]
    have h0 := (Blk.new ((w.alloc (.cells #[.slice lp p.tu.length cp, .bool p.leaf, .string (str p.key), .string (str p.val)] 25)).alloc (.cells #[.slice lq q.tu.length cq, .bool q.leaf, .string (str q.key), .string (str q.val)] 25)) #[.int .i64 0, .slice none 0 0] 47).alloc (.cells #[.int .i64 0, .slice none 0 0] 47)
    simp only [World.size_alloc] at h0
    exact h0
  have kR2 : Blk wA (w.heap.size + 3) #[.int .i64 0, .slice none 0 0] 47 := by
    rw [HwA.out]
    have h0 := Blk.new (((w.alloc (.cells #[.slice lp p.tu.length cp, .bool p.leaf, .string (str p.key), .string (str p.val)] 25)).alloc (.cells #[.slice lq q.tu.length cq, .bool q.leaf, .string (str q.key), .string (str q.val)] 25)).alloc (.cells #[.int .i64 0, .slice none 0 0] 47)) #[.int .i64 0, .slice none 0 0] 47
    simp only [World.size_alloc] at h0
    exact h0
  go_enter Try.func15, Try.ntmps15
  go_wp2_with fail
  rw [← HwA.out]
  refine (KP wA bA).mono ?_
  rintro e w1 ⟨rfl, b1⟩
  have B1 := bA.trans (b1.mono bA.size)
  have q1 := kQ.below b1 kQ.lt
  have c0 := (q1.cell 0).trans rfl
  have c1 := (q1.cell 1).trans rfl
  have c2 := (q1.cell 2).trans rfl
  have c3 := (q1.cell 3).trans rfl
  have z1 := q1.lt
  simp only [Nat.add_assoc, Nat.reduceAdd]
  go_wp2_with fail
  refine (KQ w1 B1).mono ?_
  rintro e w2 ⟨rfl, b2⟩
  have B2 := B1.trans (b2.mono B1.size)
  have p2 := (kP.below b1 kP.lt).below b2 (Nat.lt_of_lt_of_le kP.lt b1.size)
  have q2 := q1.below b2 q1.lt
  have r1 := (kR1.below b1 kR1.lt).below b2 (Nat.lt_of_lt_of_le kR1.lt b1.size)
  have r2 := (kR2.below b1 kR2.lt).below b2 (Nat.lt_of_lt_of_le kR2.lt b1.size)
  have s1 := str_toList (checkV wd root key p)
  have s2 := str_toList (checkV wd root key q)
  clear KP KQ c0 c1 c2 c3 z1 q1 kP kQ kR1 kR2 HwA b1 b2 bA B1
  by_cases h1 : shownE wd root key p = 0
  rotate_left
  · have HC : Hid (clashP wd root key p q = none) := clashP_none fun h => h1 h.1
    have hd : (shownE wd root key p != 0) = true := by simpa using h1
    clear LP LQ h1
    generalize shownE wd root key p = X at *
    have r10 := (r1.cell 0).trans rfl
    have r11 := (r1.cell 1).trans rfl
    have r20 := (r2.cell 0).trans rfl
    have r21 := (r2.cell 1).trans rfl
    have f10 := r1.frozen 0
    have f11 := r1.frozen 1
    have f20 := r2.frozen 0
    have f21 := r2.frozen 1
    have y1 := r1.lt
    have y2 := r2.lt
    go_wp2
    exact bodyPost_ret (v := .tuple #[.agg #[.int .i64 0, .slice none 0 0], .agg #[.int .i64 0, .slice none 0 0], .bool false]) (by simp [results, Try.results15, go_sem, r10, r11, r20, r21, f10, f11, f20, f21, y1, y2]) rfl ⟨_, rfl, by rw [HC.out]; exact told3_none _, by first | exact B2 | exact (((B2.setCell (p := ⟨w.heap.size + 2, 0, none⟩) (by show _ ≤ w.heap.size + 2; omega) _).setCell (p := ⟨w.heap.size + 2, 1, none⟩) (by show _ ≤ w.heap.size + 2; omega) _).setCell (p := ⟨w.heap.size + 3, 0, none⟩) (by show _ ≤ w.heap.size + 3; omega) _).setCell (p := ⟨w.heap.size + 3, 1, none⟩) (by show _ ≤ w.heap.size + 3; omega) _⟩
  by_cases h2 : shownE wd root key q = 0
  rotate_left
  · have HC : Hid (clashP wd root key p q = none) := clashP_none fun h => h2 h.2.1
    have hd : (shownE wd root key q != 0) = true := by simpa using h2
    rw [h1]
    clear LP LQ h2
    generalize shownE wd root key q = X at *
    have r10 := (r1.cell 0).trans rfl
    have r11 := (r1.cell 1).trans rfl
    have r20 := (r2.cell 0).trans rfl
    have r21 := (r2.cell 1).trans rfl
    have f10 := r1.frozen 0
    have f11 := r1.frozen 1
    have f20 := r2.frozen 0
    have f21 := r2.frozen 1
    have y1 := r1.lt
    have y2 := r2.lt
    go_wp2
    exact bodyPost_ret (v := .tuple #[.agg #[.int .i64 0, .slice none 0 0], .agg #[.int .i64 0, .slice none 0 0], .bool false]) (by simp [results, Try.results15, go_sem, r10, r11, r20, r21, f10, f11, f20, f21, y1, y2]) rfl ⟨_, rfl, by rw [HC.out]; exact told3_none _, by first | exact B2 | exact (((B2.setCell (p := ⟨w.heap.size + 2, 0, none⟩) (by show _ ≤ w.heap.size + 2; omega) _).setCell (p := ⟨w.heap.size + 2, 1, none⟩) (by show _ ≤ w.heap.size + 2; omega) _).setCell (p := ⟨w.heap.size + 3, 0, none⟩) (by show _ ≤ w.heap.size + 3; omega) _).setCell (p := ⟨w.heap.size + 3, 1, none⟩) (by show _ ≤ w.heap.size + 3; omega) _⟩
  by_cases h3 : shownV key p = shownV key q
  · have HC : Hid (clashP wd root key p q = none) := clashP_none fun h => h.2.2 h3
    have hd : (checkV wd root key p == checkV wd root key q) = true := by rw [check_shown h1, check_shown h2]; simpa using h3
    rw [h1, h2]
    clear LP LQ
    have r10 := (r1.cell 0).trans rfl
    have r11 := (r1.cell 1).trans rfl
    have r20 := (r2.cell 0).trans rfl
    have r21 := (r2.cell 1).trans rfl
    have f10 := r1.frozen 0
    have f11 := r1.frozen 1
    have f20 := r2.frozen 0
    have f21 := r2.frozen 1
    have y1 := r1.lt
    have y2 := r2.lt
    go_wp2
    exact bodyPost_ret (v := .tuple #[.agg #[.int .i64 0, .slice none 0 0], .agg #[.int .i64 0, .slice none 0 0], .bool false]) (by simp [results, Try.results15, go_sem, r10, r11, r20, r21, f10, f11, f20, f21, y1, y2]) rfl ⟨_, rfl, by rw [HC.out]; exact told3_none _, by first | exact B2 | exact (((B2.setCell (p := ⟨w.heap.size + 2, 0, none⟩) (by show _ ≤ w.heap.size + 2; omega) _).setCell (p := ⟨w.heap.size + 2, 1, none⟩) (by show _ ≤ w.heap.size + 2; omega) _).setCell (p := ⟨w.heap.size + 3, 0, none⟩) (by show _ ≤ w.heap.size + 3; omega) _).setCell (p := ⟨w.heap.size + 3, 1, none⟩) (by show _ ≤ w.heap.size + 3; omega) _⟩
  have HC : Hid (clashP wd root key p q = firstUn (wayP wd p) (wayP wd q)) := clashP_some ⟨h1, h2, h3⟩
  have hd : (checkV wd root key p == checkV wd root key q) = false := by rw [check_shown h1, check_shown h2]; simpa using h3
  have m1 : mayE key p = 0 := by
    apply Classical.byContradiction
    intro h0
    rw [shownE_may wd root key p h0] at h1
    exact h0 h1
  have m2 : mayE key q = 0 := by
    apply Classical.byContradiction
    intro h0
    rw [shownE_may wd root key q h0] at h2
    exact h0 h2
  rw [h1, h2]
  clear h1 h2 h3
  have c0 := (p2.cell 0).trans rfl
  have c1 := (p2.cell 1).trans rfl
  have c2 := (p2.cell 2).trans rfl
  have c3 := (p2.cell 3).trans rfl
  have z1 := p2.lt
  go_wp2_with fail
  refine (LP w2 B2).mono ?_
  rintro e w3 ⟨v3, rfl, hI3, b3⟩
  obtain ⟨E3, hE3, hM3, hL3⟩ := hI3 m1
  rw [m1]
  have B3 := B2.trans (b3.mono B2.size)
  have q3 := q2.below b3 q2.lt
  clear c0 c1 c2 c3 z1 hI3
  have c0 := (q3.cell 0).trans rfl
  have c1 := (q3.cell 1).trans rfl
  have c2 := (q3.cell 2).trans rfl
  have c3 := (q3.cell 3).trans rfl
  have z1 := q3.lt
  go_wp2_with fail
  refine (LQ w3 B3).mono ?_
  rintro e w4 ⟨v4, rfl, hI4, b4⟩
  obtain ⟨E4, hE4, hM4, hL4⟩ := hI4 m2
  rw [m2]
  have B4 := B3.trans (b4.mono B3.size)
  have hE3' := hE3.below b4
  obtain ⟨_, g3, cg3, cur3, rfl, _, _, _, _⟩ := id hE3'
  obtain ⟨_, g4, cg4, cur4, rfl, _, _, _, _⟩ := id hE4
  clear c0 c1 c2 c3 z1 hI4 LP LQ
  go_wp2_with fail
  refine (runlike_any _ _ _ _ E3 E4 w4 hE3' hE4 (by omega) (by omega)).mono ?_
  rintro e w5 ⟨v5, rfl, ⟨t1, t2, ss1, ss2, a1, a2, n1, n2, rfl, X1, X2, l1, l2, hg⟩, b5⟩
  have hfu : firstUn (E3.map Ent.img).reverse (E4.map Ent.img).reverse = clashP wd root key p q := by rw [hM3, hM4, List.reverse_reverse, List.reverse_reverse, HC.out]
  rw [hfu] at hg ⊢
  have B5 := B4.trans (b5.mono B4.size)
  have r15 := ((r1.below b3 r1.lt).below b4 (Nat.lt_of_lt_of_le r1.lt b3.size)).below b5 (Nat.lt_of_lt_of_le r1.lt (Nat.le_trans b3.size b4.size))
  have r25 := ((r2.below b3 r2.lt).below b4 (Nat.lt_of_lt_of_le r2.lt b3.size)).below b5 (Nat.lt_of_lt_of_le r2.lt (Nat.le_trans b3.size b4.size))
  have u2 := blk_setother (show w.heap.size + 3 ≠ w.heap.size + 2 by omega) r25 (.int .i64 t1) (.slice a1 ss1.length n1)
  have Y1 := strs_seti (strs_seti X1 r15 (.int .i64 t1) (.slice a1 ss1.length n1)) u2 (.int .i64 t2) (.slice a2 ss2.length n2)
  have Y2 := strs_seti (strs_seti X2 r15 (.int .i64 t1) (.slice a1 ss1.length n1)) u2 (.int .i64 t2) (.slice a2 ss2.length n2)
  have r10 := (r15.cell 0).trans rfl
  have r11 := (r15.cell 1).trans rfl
  have r20 := (r25.cell 0).trans rfl
  have r21 := (r25.cell 1).trans rfl
  have f10 := r15.frozen 0
  have f11 := r15.frozen 1
  have f20 := r25.frozen 0
  have f21 := r25.frozen 1
  have y1 := r15.lt
  have y2 := r25.lt
  have hBF : Below w.heap.size w ((((w5.setCell ⟨w.heap.size + 2, 0, none⟩ (.int .i64 t1)).setCell ⟨w.heap.size + 2, 1, none⟩ (.slice a1 ss1.length n1)).setCell ⟨w.heap.size + 3, 0, none⟩ (.int .i64 t2)).setCell ⟨w.heap.size + 3, 1, none⟩ (.slice a2 ss2.length n2)) :=
    (((B5.setCell (p := ⟨w.heap.size + 2, 0, none⟩) (by show _ ≤ w.heap.size + 2; omega) _).setCell (p := ⟨w.heap.size + 2, 1, none⟩) (by show _ ≤ w.heap.size + 2; omega) _).setCell (p := ⟨w.heap.size + 3, 0, none⟩) (by show _ ≤ w.heap.size + 3; omega) _).setCell (p := ⟨w.heap.size + 3, 1, none⟩) (by show _ ≤ w.heap.size + 3; omega) _
  obtain ⟨CC, HCC⟩ : ∃ z, Hid (clashP wd root key p q = z) := ⟨_, rfl⟩
  rw [HCC.out] at hg ⊢
  clear HC hfu
  go_wp2
  exact bodyPost_ret (v := .tuple #[.agg #[.int .i64 t1, .slice a1 ss1.length n1], .agg #[.int .i64 t2, .slice a2 ss2.length n2], .bool CC.isSome]) (by simp [results, Try.results15, go_sem, r10, r11, r20, r21, f10, f11, f20, f21, y1, y2]) rfl ⟨_, rfl, by rw [HCC.out]; exact ⟨t1, t2, ss1, ss2, a1, a2, n1, n2, rfl, Y1, Y2, l1, l2, hg⟩, hBF⟩
end Go.Proofs.Ytcpjcjonlkgblaa

namespace Go.Proofs.Ytcpjcjonlkgblaa
open Go.RowKit
set_option linter.unusedVariables false
set_option linter.unusedSimpArgs false

set_option maxRecDepth 8000 in
set_option maxHeartbeats 1600000 in
theorem clash_all (wd root : Int) (key : Key) (lp lq : Option Addr) (cp cq : Nat) (p q : Pf) (w : World) (hw : okW wd) (hk : key.length ≤ 32) (hp : PfIn w lp cp p) (hq : PfIn w lq cq q) (hl : p.tu.length ≤ 1000000) (hs1 : p.key.length ≤ 1000000) (hs2 : p.val.length ≤ 1000000) (hl' : q.tu.length ≤ 1000000) (hs1' : q.key.length ≤ 1000000) (hs2' : q.val.length ≤ 1000000) :
    Calls Try.prog 14 #[.int .i64 wd, .int .u64 root, .string (str key), pfV lp cp p, pfV lq cq q] w fun e w' => ∃ v, e = .returned v ∧ Told3 w' (clashP wd root key p q) v ∧ Below w.heap.size w w' := by
  by_cases hall : shownE wd root key p = 0 ∧ shownE wd root key q = 0 ∧ shownV key p ≠ shownV key q
  · rw [clashP_some hall]
    exact clash_any wd root key lp lq cp cq p q w hw hk hp hq hl hs1 hs2 hl' hs1' hs2' hall.1 hall.2.1 hall.2.2
  have HC : Hid (clashP wd root key p q = none) := clashP_none hall
  have KP := fun w' (hb : Below w.heap.size w w') => shown_any wd root key lp cp p w' hw hk (hp.below hb) hl hs1 hs2
  have KQ := fun w' (hb : Below w.heap.size w w') => shown_any wd root key lq cq q w' hw hk (hq.below hb) hl' hs1' hs2'
  unfold pfV at KP KQ ⊢
  obtain ⟨wA, HwA⟩ : ∃ x, Hid (x = ((((w.alloc (.cells #[.slice lp p.tu.length cp, .bool p.leaf, .string (str p.key), .string (str p.val)] 25)).alloc (.cells #[.slice lq q.tu.length cq, .bool q.leaf, .string (str q.key), .string (str q.val)] 25)).alloc (.cells #[.int .i64 0, .slice none 0 0] 47)).alloc (.cells #[.int .i64 0, .slice none 0 0] 47))) := ⟨_, rfl⟩
  have bA : Below w.heap.size w wA := by rw [HwA.out]; exact ((((Below.refl _ _).alloc (Nat.le_refl _) _).alloc (by simp) _).alloc (by simp; omega) _).alloc (by simp; omega) _
  have kP : Blk wA w.heap.size #[.slice lp p.tu.length cp, .bool p.leaf, .string (str p.key), .string (str p.val)] 25 := by
    rw [HwA.out]
    exact (((Blk.new w #[.slice lp p.tu.length cp, .bool p.leaf, .string (str p.key), .string (str p.val)] 25).alloc _).alloc _).alloc _
  have kQ : Blk wA (w.heap.size + 1) #[.slice lq q.tu.length cq, .bool q.leaf, .string (str q.key), .string (str q.val)] 25 := by
    rw [HwA.out]
    have h0 := ((Blk.new (w.alloc (.cells #[.slice lp p.tu.length cp, .bool p.leaf, .string (str p.key), .string (str p.val)] 25)) #[.slice lq q.tu.length cq, .bool q.leaf, .string (str q.key), .string (str q.val)] 25).alloc (.cells #[.int .i64 0, .slice none 0 0] 47)).alloc (.cells #[.int .i64 0, .slice none 0 0] 47)
    simp only [World.size_alloc] at h0
    exact h0
  have kR1 : Blk wA (w.heap.size + 2) #[.int .i64 0, .slice none 0 0] 47 := by
    rw [HwA.out]
    have h0 := (Blk.new ((w.alloc (.cells #[.slice lp p.tu.length cp, .bool p.leaf, .string (str p.key), .string (str p.val)] 25)).alloc (.cells #[.slice lq q.tu.length cq, .bool q.leaf, .string (str q.key), .string (str q.val)] 25)) #[.int .i64 0, .slice none 0 0] 47).alloc (.cells #[.int .i64 0, .slice none 0 0] 47)
    simp only [World.size_alloc] at h0
    exact h0
  have kR2 : Blk wA (w.heap.size + 3) #[.int .i64 0, .slice none 0 0] 47 := by
    rw [HwA.out]
    have h0 := Blk.new (((w.alloc (.cells #[.slice lp p.tu.length cp, .bool p.leaf, .string (str p.key), .string (str p.val)] 25)).alloc (.cells #[.slice lq q.tu.length cq, .bool q.leaf, .string (str q.key), .string (str q.val)] 25)).alloc (.cells #[.int .i64 0, .slice none 0 0] 47)) #[.int .i64 0, .slice none 0 0] 47
    simp only [World.size_alloc] at h0
    exact h0
  go_enter Try.func14, Try.ntmps14
  go_wp2_with fail
  rw [← HwA.out]
  refine (KP wA bA).mono ?_
  rintro e w1 ⟨b1, hcase1⟩
  have B1 := bA.trans (b1.mono bA.size)
  have q1 := kQ.below b1 kQ.lt
  have c0 := (q1.cell 0).trans rfl
  have c1 := (q1.cell 1).trans rfl
  have c2 := (q1.cell 2).trans rfl
  have c3 := (q1.cell 3).trans rfl
  have z1 := q1.lt
  simp only [Nat.add_assoc, Nat.reduceAdd]
  rcases hcase1 with ⟨h1, v1, E1, rfl, _⟩ | ⟨h1, rfl⟩
  · go_wp2_with fail
    refine (KQ w1 B1).mono ?_
    rintro e w2 ⟨b2, hcase2⟩
    have B2 := B1.trans (b2.mono B1.size)
    have r1 := (kR1.below b1 kR1.lt).below b2 (Nat.lt_of_lt_of_le kR1.lt b1.size)
    have r2 := (kR2.below b1 kR2.lt).below b2 (Nat.lt_of_lt_of_le kR2.lt b1.size)
    have s2 := str_toList (shownV key q)
    clear KP KQ c0 c1 c2 c3 z1 q1 kP kQ kR1 kR2 HwA b1 b2 bA B1
    rcases hcase2 with ⟨h2, v2, E2, rfl, _⟩ | ⟨h2, rfl⟩
    · have h3 : shownV key p = shownV key q := Classical.byContradiction fun h => hall ⟨h1, h2, h⟩
      rw [h3]
      clear hall h1 h2 h3
      have r10 := (r1.cell 0).trans rfl
      have r11 := (r1.cell 1).trans rfl
      have r20 := (r2.cell 0).trans rfl
      have r21 := (r2.cell 1).trans rfl
      have f10 := r1.frozen 0
      have f11 := r1.frozen 1
      have f20 := r2.frozen 0
      have f21 := r2.frozen 1
      have y1 := r1.lt
      have y2 := r2.lt
      go_wp2
      exact bodyPost_ret (v := .tuple #[.agg #[.int .i64 0, .slice none 0 0], .agg #[.int .i64 0, .slice none 0 0], .bool false]) (by simp [results, Try.results14, go_sem, r10, r11, r20, r21, f10, f11, f20, f21, y1, y2]) rfl ⟨_, rfl, by rw [HC.out]; exact told3_none _, by first | exact B2 | exact (((B2.setCell (p := ⟨w.heap.size + 2, 0, none⟩) (by show _ ≤ w.heap.size + 2; omega) _).setCell (p := ⟨w.heap.size + 2, 1, none⟩) (by show _ ≤ w.heap.size + 2; omega) _).setCell (p := ⟨w.heap.size + 3, 0, none⟩) (by show _ ≤ w.heap.size + 3; omega) _).setCell (p := ⟨w.heap.size + 3, 1, none⟩) (by show _ ≤ w.heap.size + 3; omega) _⟩
    · have hd : (shownE wd root key q != 0) = true := by simpa using h2
      clear hall h1 h2
      generalize shownE wd root key q = X at *
      have r10 := (r1.cell 0).trans rfl
      have r11 := (r1.cell 1).trans rfl
      have r20 := (r2.cell 0).trans rfl
      have r21 := (r2.cell 1).trans rfl
      have f10 := r1.frozen 0
      have f11 := r1.frozen 1
      have f20 := r2.frozen 0
      have f21 := r2.frozen 1
      have y1 := r1.lt
      have y2 := r2.lt
      go_wp2
      exact bodyPost_ret (v := .tuple #[.agg #[.int .i64 0, .slice none 0 0], .agg #[.int .i64 0, .slice none 0 0], .bool false]) (by simp [results, Try.results14, go_sem, r10, r11, r20, r21, f10, f11, f20, f21, y1, y2]) rfl ⟨_, rfl, by rw [HC.out]; exact told3_none _, by first | exact B2 | exact (((B2.setCell (p := ⟨w.heap.size + 2, 0, none⟩) (by show _ ≤ w.heap.size + 2; omega) _).setCell (p := ⟨w.heap.size + 2, 1, none⟩) (by show _ ≤ w.heap.size + 2; omega) _).setCell (p := ⟨w.heap.size + 3, 0, none⟩) (by show _ ≤ w.heap.size + 3; omega) _).setCell (p := ⟨w.heap.size + 3, 1, none⟩) (by show _ ≤ w.heap.size + 3; omega) _⟩
  · go_wp2_with fail
    refine (KQ w1 B1).mono ?_
    rintro e w2 ⟨b2, hcase2⟩
    have B2 := B1.trans (b2.mono B1.size)
    have r1 := (kR1.below b1 kR1.lt).below b2 (Nat.lt_of_lt_of_le kR1.lt b1.size)
    have r2 := (kR2.below b1 kR2.lt).below b2 (Nat.lt_of_lt_of_le kR2.lt b1.size)
    have s2 := str_toList (shownV key q)
    clear KP KQ c0 c1 c2 c3 z1 q1 kP kQ kR1 kR2 HwA b1 b2 bA B1
    have hd : (shownE wd root key p != 0) = true := by simpa using h1
    rcases hcase2 with ⟨h2, v2, E2, rfl, _⟩ | ⟨h2, rfl⟩
    · clear hall h1 h2
      generalize shownE wd root key p = X at *
      have r10 := (r1.cell 0).trans rfl
      have r11 := (r1.cell 1).trans rfl
      have r20 := (r2.cell 0).trans rfl
      have r21 := (r2.cell 1).trans rfl
      have f10 := r1.frozen 0
      have f11 := r1.frozen 1
      have f20 := r2.frozen 0
      have f21 := r2.frozen 1
      have y1 := r1.lt
      have y2 := r2.lt
      go_wp2
      exact bodyPost_ret (v := .tuple #[.agg #[.int .i64 0, .slice none 0 0], .agg #[.int .i64 0, .slice none 0 0], .bool false]) (by simp [results, Try.results14, go_sem, r10, r11, r20, r21, f10, f11, f20, f21, y1, y2]) rfl ⟨_, rfl, by rw [HC.out]; exact told3_none _, by first | exact B2 | exact (((B2.setCell (p := ⟨w.heap.size + 2, 0, none⟩) (by show _ ≤ w.heap.size + 2; omega) _).setCell (p := ⟨w.heap.size + 2, 1, none⟩) (by show _ ≤ w.heap.size + 2; omega) _).setCell (p := ⟨w.heap.size + 3, 0, none⟩) (by show _ ≤ w.heap.size + 3; omega) _).setCell (p := ⟨w.heap.size + 3, 1, none⟩) (by show _ ≤ w.heap.size + 3; omega) _⟩
    · clear hall h1 h2
      generalize shownE wd root key p = X at *
      generalize shownE wd root key q = Y at *
      have r10 := (r1.cell 0).trans rfl
      have r11 := (r1.cell 1).trans rfl
      have r20 := (r2.cell 0).trans rfl
      have r21 := (r2.cell 1).trans rfl
      have f10 := r1.frozen 0
      have f11 := r1.frozen 1
      have f20 := r2.frozen 0
      have f21 := r2.frozen 1
      have y1 := r1.lt
      have y2 := r2.lt
      go_wp2
      exact bodyPost_ret (v := .tuple #[.agg #[.int .i64 0, .slice none 0 0], .agg #[.int .i64 0, .slice none 0 0], .bool false]) (by simp [results, Try.results14, go_sem, r10, r11, r20, r21, f10, f11, f20, f21, y1, y2]) rfl ⟨_, rfl, by rw [HC.out]; exact told3_none _, by first | exact B2 | exact (((B2.setCell (p := ⟨w.heap.size + 2, 0, none⟩) (by show _ ≤ w.heap.size + 2; omega) _).setCell (p := ⟨w.heap.size + 2, 1, none⟩) (by show _ ≤ w.heap.size + 2; omega) _).setCell (p := ⟨w.heap.size + 3, 0, none⟩) (by show _ ≤ w.heap.size + 3; omega) _).setCell (p := ⟨w.heap.size + 3, 1, none⟩) (by show _ ≤ w.heap.size + 3; omega) _⟩
end Go.Proofs.Ytcpjcjonlkgblaa

namespace Go.Proofs.Ytcpjcjonlkgblaa
open Go.RowKit
set_option linter.unusedVariables false
set_option linter.unusedSimpArgs false

theorem may_long (key : Key) (pv : Array Value) (w : World) (hk : 32 < key.length) (hm : key.length ≤ maxLen) (n : Nat) (la : Option Addr) (cap : Nat) (lf : Bool) (k v : Key) (hpv : pv = #[.slice la n cap, .bool lf, .string (str k), .string (str v)]) :
    Calls Try.prog 39 #[.string (str key), .agg pv] w fun e w' => e = .returned (.int .i64 3) ∧ Below w.heap.size w w' := by
  subst hpv
  have hs := str_size key
  unfold maxLen at hm
  have hk' : (32 : Int) < (key.length : Int) := by omega
  have bA : Below w.heap.size w (w.alloc (.cells #[.slice la n cap, .bool lf, .string (str k), .string (str v)] 25)) := (Below.refl _ _).alloc (Nat.le_refl _) _
  go_enter Try.func39, Try.ntmps39
  go_wp2
  go_ret
  exact ⟨rfl, bA⟩
theorem shown_long (wd root : Int) (key : Key) (w : World) (hk : 32 < key.length) (hm : key.length ≤ maxLen) (n : Nat) (la : Option Addr) (cap : Nat) (lf : Bool) (k v : Key) :
    Calls Try.prog 27 #[.int .i64 wd, .int .u64 root, .string (str key), .agg #[.slice la n cap, .bool lf, .string (str k), .string (str v)]] w fun e w' => e = .returned (.tuple #[.string ⟨#[]⟩, .slice none 0 0, .int .i64 3]) ∧ Below w.heap.size w w' := by
  have bA : Below w.heap.size w (w.alloc (.cells #[.slice la n cap, .bool lf, .string (str k), .string (str v)] 25)) := (Below.refl _ _).alloc (Nat.le_refl _) _
  go_enter Try.func27, Try.ntmps27
  go_wp2_with fail
  refine (may_long key _ _ hk hm n la cap lf k v rfl).mono ?_
  rintro e w1 ⟨rfl, b1⟩
  have B1 := bA.trans (b1.mono bA.size)
  go_wp2
  exact bodyPost_ret (v := .tuple #[.string ⟨#[]⟩, .slice none 0 0, .int .i64 3]) (by simp [results, Try.results27, go_sem]) rfl ⟨rfl, B1⟩
theorem check_long (wd root : Int) (key : Key) (w : World) (hk : 32 < key.length) (hm : key.length ≤ maxLen) (n : Nat) (la : Option Addr) (cap : Nat) (lf : Bool) (k v : Key) :
    Calls Try.prog 11 #[.int .i64 wd, .int .u64 root, .string (str key), .agg #[.slice la n cap, .bool lf, .string (str k), .string (str v)]] w fun e w' => e = .returned (.tuple #[.string ⟨#[]⟩, .int .i64 3]) ∧ Below w.heap.size w w' := by
  have bA : Below w.heap.size w (w.alloc (.cells #[.slice la n cap, .bool lf, .string (str k), .string (str v)] 25)) := (Below.refl _ _).alloc (Nat.le_refl _) _
  go_enter Try.func11, Try.ntmps11
  go_wp2_with fail
  refine (shown_long wd root key _ hk hm n la cap lf k v).mono ?_
  rintro e w1 ⟨rfl, b1⟩
  go_wp2
  exact bodyPost_ret (v := .tuple #[.string ⟨#[]⟩, .int .i64 3]) (by simp [results, Try.results11, go_sem]) rfl ⟨rfl, bA.trans (b1.mono bA.size)⟩
theorem rclimb_long (wd : Int) (key : Key) (w : World) (hk : 32 < key.length) (hm : key.length ≤ maxLen) (n : Nat) (la : Option Addr) (cap : Nat) (lf : Bool) (k v : Key) :
    Calls Try.prog 28 #[.int .i64 wd, .string (str key), .agg #[.slice la n cap, .bool lf, .string (str k), .string (str v)]] w fun e w' => e = .returned (.tuple #[.slice none 0 0, .int .i64 3]) ∧ Below w.heap.size w w' := by
  have hs := str_size key
  unfold maxLen at hm
  have hk' : (32 : Int) < (key.length : Int) := by omega
  have bA : Below w.heap.size w (w.alloc (.cells #[.slice la n cap, .bool lf, .string (str k), .string (str v)] 25)) := (Below.refl _ _).alloc (Nat.le_refl _) _
  go_enter Try.func28, Try.ntmps28
  go_wp2
  exact bodyPost_ret (v := .tuple #[.slice none 0 0, .int .i64 3]) (by simp [results, Try.results28, go_sem]) rfl ⟨rfl, bA⟩
theorem rcheck_long (wd root : Int) (key : Key) (w : World) (hk : 32 < key.length) (hm : key.length ≤ maxLen) (n : Nat) (la : Option Addr) (cap : Nat) (lf : Bool) (k v : Key) :
    Calls Try.prog 12 #[.int .i64 wd, .int .u64 root, .string (str key), .agg #[.slice la n cap, .bool lf, .string (str k), .string (str v)]] w fun e w' => e = .returned (.tuple #[.string ⟨#[]⟩, .int .i64 3]) ∧ Below w.heap.size w w' := by
  have bA : Below w.heap.size w (w.alloc (.cells #[.slice la n cap, .bool lf, .string (str k), .string (str v)] 25)) := (Below.refl _ _).alloc (Nat.le_refl _) _
  go_enter Try.func12, Try.ntmps12
  go_wp2_with fail
  refine (rclimb_long wd key _ hk hm n la cap lf k v).mono ?_
  rintro e w1 ⟨rfl, b1⟩
  have B1 := bA.trans (b1.mono bA.size)
  go_wp2
  exact bodyPost_ret (v := .tuple #[.string ⟨#[]⟩, .int .i64 3]) (by simp [results, Try.results12, go_sem]) rfl ⟨rfl, B1⟩

theorem prove_long (wd : Int) (q : Option Addr) (key : Key) (w : World) (hk : 32 < key.length) (hm : key.length ≤ maxLen) :
    Calls Try.prog 9 #[.agg #[.int .i64 wd, .pointer q], .string (str key)] w fun e w' => e = .returned (.tuple #[.agg #[.slice none 0 0, .bool false, .string ⟨#[]⟩, .string ⟨#[]⟩], .int .i64 3]) ∧ Below w.heap.size w w' := by
  have hs := str_size key
  unfold maxLen at hm
  have hk' : (32 : Int) < (key.length : Int) := by omega
  go_enter Try.func9, Try.ntmps9
  go_wp2
  exact bodyPost_ret (v := .tuple #[.agg #[.slice none 0 0, .bool false, .string ⟨#[]⟩, .string ⟨#[]⟩], .int .i64 3]) (by simp [results, Try.results9, go_sem]) rfl ⟨rfl, by first | exact ((Below.refl _ _).alloc (Nat.le_refl _) _).alloc (by simp) _ | exact (Below.refl _ _).alloc (Nat.le_refl _) _⟩

set_option maxRecDepth 8000 in
set_option maxHeartbeats 800000 in
theorem clash_long (wd root : Int) (key : Key) (lp lq : Option Addr) (cp cq np nq : Nat) (lfp lfq : Bool) (kp vp kq vq : Key) (w : World) (hk : 32 < key.length) (hm : key.length ≤ maxLen) :
    Calls Try.prog 14 #[.int .i64 wd, .int .u64 root, .string (str key), .agg #[.slice lp np cp, .bool lfp, .string (str kp), .string (str vp)], .agg #[.slice lq nq cq, .bool lfq, .string (str kq), .string (str vq)]] w fun e w' => ∃ v, e = .returned v ∧ Told3 w' none v ∧ Below w.heap.size w w' := by
  obtain ⟨wA, HwA⟩ : ∃ x, Hid (x = ((((w.alloc (.cells #[.slice lp np cp, .bool lfp, .string (str kp), .string (str vp)] 25)).alloc (.cells #[.slice lq nq cq, .bool lfq, .string (str kq), .string (str vq)] 25)).alloc (.cells #[.int .i64 0, .slice none 0 0] 47)).alloc (.cells #[.int .i64 0, .slice none 0 0] 47))) := ⟨_, rfl⟩
  have bA : Below w.heap.size w wA := by rw [HwA.out]; exact ((((Below.refl _ _).alloc (Nat.le_refl _) _).alloc (by simp) _).alloc (by simp; omega) _).alloc (by simp; omega) _
  have kP : Blk wA w.heap.size #[.slice lp np cp, .bool lfp, .string (str kp), .string (str vp)] 25 := by
    rw [HwA.out]
    exact (((Blk.new w #[.slice lp np cp, .bool lfp, .string (str kp), .string (str vp)] 25).alloc _).alloc _).alloc _
  have kQ : Blk wA (w.heap.size + 1) #[.slice lq nq cq, .bool lfq, .string (str kq), .string (str vq)] 25 := by
    rw [HwA.out]
    have h0 := ((Blk.new (w.alloc (.cells #[.slice lp np cp, .bool lfp, .string (str kp), .string (str vp)] 25)) #[.slice lq nq cq, .bool lfq, .string (str kq), .string (str vq)] 25).alloc (.cells #[.int .i64 0, .slice none 0 0] 47)).alloc (.cells #[.int .i64 0, .slice none 0 0] 47)
    simp only [World.size_alloc] at h0
    exact h0
  have kR1 : Blk wA (w.heap.size + 2) #[.int .i64 0, .slice none 0 0] 47 := by
    rw [HwA.out]
    have h0 := (Blk.new ((w.alloc (.cells #[.slice lp np cp, .bool lfp, .string (str kp), .string (str vp)] 25)).alloc (.cells #[.slice lq nq cq, .bool lfq, .string (str kq), .string (str vq)] 25)) #[.int .i64 0, .slice none 0 0] 47).alloc (.cells #[.int .i64 0, .slice none 0 0] 47)
    simp only [World.size_alloc] at h0
    exact h0
  have kR2 : Blk wA (w.heap.size + 3) #[.int .i64 0, .slice none 0 0] 47 := by
    rw [HwA.out]
    have h0 := Blk.new (((w.alloc (.cells #[.slice lp np cp, .bool lfp, .string (str kp), .string (str vp)] 25)).alloc (.cells #[.slice lq nq cq, .bool lfq, .string (str kq), .string (str vq)] 25)).alloc (.cells #[.int .i64 0, .slice none 0 0] 47)) #[.int .i64 0, .slice none 0 0] 47
    simp only [World.size_alloc] at h0
    exact h0
  go_enter Try.func14, Try.ntmps14
  go_wp2_with fail
  rw [← HwA.out]
  refine (shown_long wd root key wA hk hm np lp cp lfp kp vp).mono ?_
  rintro e w1 ⟨rfl, b1⟩
  have B1 := bA.trans (b1.mono bA.size)
  have q1 := kQ.below b1 kQ.lt
  have c0 := (q1.cell 0).trans rfl
  have c1 := (q1.cell 1).trans rfl
  have c2 := (q1.cell 2).trans rfl
  have c3 := (q1.cell 3).trans rfl
  have z1 := q1.lt
  simp only [Nat.add_assoc, Nat.reduceAdd]
  go_wp2_with fail
  refine (shown_long wd root key w1 hk hm nq lq cq lfq kq vq).mono ?_
  rintro e w2 ⟨rfl, b2⟩
  have B2 := B1.trans (b2.mono B1.size)
  have r1 := (kR1.below b1 kR1.lt).below b2 (Nat.lt_of_lt_of_le kR1.lt b1.size)
  have r2 := (kR2.below b1 kR2.lt).below b2 (Nat.lt_of_lt_of_le kR2.lt b1.size)
  clear c0 c1 c2 c3 z1 q1 kP kQ kR1 kR2 HwA b1 b2 bA B1
  have r10 := (r1.cell 0).trans rfl
  have r11 := (r1.cell 1).trans rfl
  have r20 := (r2.cell 0).trans rfl
  have r21 := (r2.cell 1).trans rfl
  have f10 := r1.frozen 0
  have f11 := r1.frozen 1
  have f20 := r2.frozen 0
  have f21 := r2.frozen 1
  have y1 := r1.lt
  have y2 := r2.lt
  go_wp2
  exact bodyPost_ret (v := .tuple #[.agg #[.int .i64 0, .slice none 0 0], .agg #[.int .i64 0, .slice none 0 0], .bool false]) (by simp [results, Try.results14, go_sem, r10, r11, r20, r21, f10, f11, f20, f21, y1, y2]) rfl ⟨_, rfl, told3_none _, by first | exact B2 | exact (((B2.setCell (p := ⟨w.heap.size + 2, 0, none⟩) (by show _ ≤ w.heap.size + 2; omega) _).setCell (p := ⟨w.heap.size + 2, 1, none⟩) (by show _ ≤ w.heap.size + 2; omega) _).setCell (p := ⟨w.heap.size + 3, 0, none⟩) (by show _ ≤ w.heap.size + 3; omega) _).setCell (p := ⟨w.heap.size + 3, 1, none⟩) (by show _ ≤ w.heap.size + 3; omega) _⟩

set_option maxRecDepth 8000 in
set_option maxHeartbeats 800000 in
theorem rclash_long (wd root : Int) (key : Key) (lp lq : Option Addr) (cp cq np nq : Nat) (lfp lfq : Bool) (kp vp kq vq : Key) (w : World) (hk : 32 < key.length) (hm : key.length ≤ maxLen) :
    Calls Try.prog 15 #[.int .i64 wd, .int .u64 root, .string (str key), .agg #[.slice lp np cp, .bool lfp, .string (str kp), .string (str vp)], .agg #[.slice lq nq cq, .bool lfq, .string (str kq), .string (str vq)]] w fun e w' => ∃ v, e = .returned v ∧ Told3 w' none v ∧ Below w.heap.size w w' := by
  obtain ⟨wA, HwA⟩ : ∃ x, Hid (x = ((((w.alloc (.cells #[.slice lp np cp, .bool lfp, .string (str kp), .string (str vp)] 25)).alloc (.cells #[.slice lq nq cq, .bool lfq, .string (str kq), .string (str vq)] 25)).alloc (.cells #[.int .i64 0, .slice none 0 0] 47)).alloc (.cells #[.int .i64 0, .slice none 0 0] 47))) := ⟨_, rfl⟩
  have bA : Below w.heap.size w wA := by rw [HwA.out]; exact ((((Below.refl _ _).alloc (Nat.le_refl _) _).alloc (by simp) _).alloc (by simp; omega) _).alloc (by simp; omega) _
  have kP : Blk wA w.heap.size #[.slice lp np cp, .bool lfp, .string (str kp), .string (str vp)] 25 := by
    rw [HwA.out]
    exact (((Blk.new w #[.slice lp np cp, .bool lfp, .string (str kp), .string (str vp)] 25).alloc _).alloc _).alloc _
  have kQ : Blk wA (w.heap.size + 1) #[.slice lq nq cq, .bool lfq, .string (str kq), .string (str vq)] 25 := by
    rw [HwA.out]
    have h0 := ((Blk.new (w.alloc (.cells #[.slice lp np cp, .bool lfp, .string (str kp), .string (str vp)] 25)) #[.slice lq nq cq, .bool lfq, .string (str kq), .string (str vq)] 25).alloc (.cells #[.int .i64 0, .slice none 0 0] 47)).alloc (.cells #[.int .i64 0, .slice none 0 0] 47)
    simp only [World.size_alloc] at h0
    exact h0
  have kR1 : Blk wA (w.heap.size + 2) #[.int .i64 0, .slice none 0 0] 47 := by
    rw [HwA.out]
    have h0 := (Blk.new ((w.alloc (.cells #[.slice lp np cp, .bool lfp, .string (str kp), .string (str vp)] 25)).alloc (.cells #[.slice lq nq cq, .bool lfq, .string (str kq), .string (str vq)] 25)) #[.int .i64 0, .slice none 0 0] 47).alloc (.cells #[.int .i64 0, .slice none 0 0] 47)
    simp only [World.size_alloc] at h0
    exact h0
  have kR2 : Blk wA (w.heap.size + 3) #[.int .i64 0, .slice none 0 0] 47 := by
    rw [HwA.out]
    have h0 := Blk.new (((w.alloc (.cells #[.slice lp np cp, .bool lfp, .string (str kp), .string (str vp)] 25)).alloc (.cells #[.slice lq nq cq, .bool lfq, .string (str kq), .string (str vq)] 25)).alloc (.cells #[.int .i64 0, .slice none 0 0] 47)) #[.int .i64 0, .slice none 0 0] 47
    simp only [World.size_alloc] at h0
    exact h0
  go_enter Try.func15, Try.ntmps15
  go_wp2_with fail
  rw [← HwA.out]
  refine (rcheck_long wd root key wA hk hm np lp cp lfp kp vp).mono ?_
  rintro e w1 ⟨rfl, b1⟩
  have B1 := bA.trans (b1.mono bA.size)
  have q1 := kQ.below b1 kQ.lt
  have c0 := (q1.cell 0).trans rfl
  have c1 := (q1.cell 1).trans rfl
  have c2 := (q1.cell 2).trans rfl
  have c3 := (q1.cell 3).trans rfl
  have z1 := q1.lt
  simp only [Nat.add_assoc, Nat.reduceAdd]
  go_wp2_with fail
  refine (rcheck_long wd root key w1 hk hm nq lq cq lfq kq vq).mono ?_
  rintro e w2 ⟨rfl, b2⟩
  have B2 := B1.trans (b2.mono B1.size)
  have r1 := (kR1.below b1 kR1.lt).below b2 (Nat.lt_of_lt_of_le kR1.lt b1.size)
  have r2 := (kR2.below b1 kR2.lt).below b2 (Nat.lt_of_lt_of_le kR2.lt b1.size)
  clear c0 c1 c2 c3 z1 q1 kP kQ kR1 kR2 HwA b1 b2 bA B1
  have r10 := (r1.cell 0).trans rfl
  have r11 := (r1.cell 1).trans rfl
  have r20 := (r2.cell 0).trans rfl
  have r21 := (r2.cell 1).trans rfl
  have f10 := r1.frozen 0
  have f11 := r1.frozen 1
  have f20 := r2.frozen 0
  have f21 := r2.frozen 1
  have y1 := r1.lt
  have y2 := r2.lt
  go_wp2
  exact bodyPost_ret (v := .tuple #[.agg #[.int .i64 0, .slice none 0 0], .agg #[.int .i64 0, .slice none 0 0], .bool false]) (by simp [results, Try.results15, go_sem, r10, r11, r20, r21, f10, f11, f20, f21, y1, y2]) rfl ⟨_, rfl, told3_none _, by first | exact B2 | exact (((B2.setCell (p := ⟨w.heap.size + 2, 0, none⟩) (by show _ ≤ w.heap.size + 2; omega) _).setCell (p := ⟨w.heap.size + 2, 1, none⟩) (by show _ ≤ w.heap.size + 2; omega) _).setCell (p := ⟨w.heap.size + 3, 0, none⟩) (by show _ ≤ w.heap.size + 3; omega) _).setCell (p := ⟨w.heap.size + 3, 1, none⟩) (by show _ ≤ w.heap.size + 3; omega) _⟩
end Go.Proofs.Ytcpjcjonlkgblaa

namespace Go.Proofs.Ytcpjcjonlkgblaa
open Go.RowKit
set_option linter.unusedVariables false
set_option linter.unusedSimpArgs false

theorem set4_top {wd : Int} {w : World} {v : Value} {o : Option Tr} {c : Nat} {x0 x1 x2 x3 : Value} (h : TopAt wd w v o) (hc : Blk w c #[x0, x1, x2, x3] 25) (a b d e : Value) : TopAt wd (set4 w c a b d e) v o := by
  have k1 := hc.set 0 a
  have k2 := k1.set 1 b
  have k3 := k2.set 2 d
  exact (((h.setAny hc (by decide) 0 a).setAny k1 (by decide) 1 b).setAny k2 (by decide) 2 d).setAny k3 (by decide) 3 e

/-- What the checks say, of whatever proof. -/
structure ChkK (wd RT : Int) (key : Key) (lq : Option Addr) (cq : Nat) (Q : Pf) (cv : Pf → Key) (ce : Pf → Int) (clo : Pf → Option ((Int × List ByteArray) × (Int × List ByteArray))) : Prop where
  chk : ∀ X la cap w, PfIn w la cap X → X.tu.length ≤ 1000000 → X.key.length ≤ 1000000 → X.val.length ≤ 1000000 → Calls Try.prog 11 #[.int .i64 wd, .int .u64 RT, .string (str key), .agg #[.slice la X.tu.length cap, .bool X.leaf, .string (str X.key), .string (str X.val)]] w fun e w' => e = .returned (.tuple #[.string (str (cv X)), .int .i64 (ce X)]) ∧ Below w.heap.size w w'
  rchk : ∀ X la cap w, PfIn w la cap X → X.tu.length ≤ 1000000 → X.key.length ≤ 1000000 → X.val.length ≤ 1000000 → Calls Try.prog 12 #[.int .i64 wd, .int .u64 RT, .string (str key), .agg #[.slice la X.tu.length cap, .bool X.leaf, .string (str X.key), .string (str X.val)]] w fun e w' => e = .returned (.tuple #[.string (str (cv X)), .int .i64 (ce X)]) ∧ Below w.heap.size w w'
  cl : ∀ X la cap w, PfIn w lq cq Q → PfIn w la cap X → X.tu.length ≤ 1000000 → X.key.length ≤ 1000000 → X.val.length ≤ 1000000 → Calls Try.prog 14 #[.int .i64 wd, .int .u64 RT, .string (str key), .agg #[.slice lq Q.tu.length cq, .bool Q.leaf, .string (str Q.key), .string (str Q.val)], .agg #[.slice la X.tu.length cap, .bool X.leaf, .string (str X.key), .string (str X.val)]] w fun e w' => ∃ v, e = .returned v ∧ Told3 w' (clo X) v ∧ Below w.heap.size w w'
  rcl : ∀ X la cap w, PfIn w lq cq Q → PfIn w la cap X → X.tu.length ≤ 1000000 → X.key.length ≤ 1000000 → X.val.length ≤ 1000000 → Calls Try.prog 15 #[.int .i64 wd, .int .u64 RT, .string (str key), .agg #[.slice lq Q.tu.length cq, .bool Q.leaf, .string (str Q.key), .string (str Q.val)], .agg #[.slice la X.tu.length cap, .bool X.leaf, .string (str X.key), .string (str X.val)]] w fun e w' => ∃ v, e = .returned v ∧ Told3 w' (clo X) v ∧ Below w.heap.size w w'
theorem chk_short (wd RT : Int) (key : Key) (lq : Option Addr) (cq : Nat) (Q : Pf) (hw : okW wd) (hk : key.length ≤ 32) (h1 : Q.tu.length ≤ 1000000) (h2 : Q.key.length ≤ 1000000) (h3 : Q.val.length ≤ 1000000) : ChkK wd RT key lq cq Q (checkV wd RT key) (shownE wd RT key) (clashP wd RT key Q) :=
  ⟨fun X la cap w h a b c => check_any wd RT key la cap X w hw hk h a b c, fun X la cap w h a b c => rcheck_any wd RT key la cap X w hw hk h a b c,
   fun X la cap w hq h a b c => clash_all wd RT key lq la cq cap Q X w hw hk hq h h1 h2 h3 a b c, fun X la cap w hq h a b c => rclash_any wd RT key lq la cq cap Q X w hw hk hq h h1 h2 h3 a b c⟩
theorem chk_long (wd RT : Int) (key : Key) (lq : Option Addr) (cq : Nat) (Q : Pf) (hk : 32 < key.length) (hm : key.length ≤ maxLen) : ChkK wd RT key lq cq Q (fun _ => []) (fun _ => 3) (fun _ => none) :=
  ⟨fun X la cap w h a b c => check_long wd RT key w hk hm _ la cap _ _ _, fun X la cap w h a b c => rcheck_long wd RT key w hk hm _ la cap _ _ _,
   fun X la cap w hq h a b c => clash_long wd RT key lq la cq cap _ _ _ _ _ _ _ _ w hk hm, fun X la cap w hq h a b c => rclash_long wd RT key lq la cq cap _ _ _ _ _ _ _ _ w hk hm⟩

set_option maxRecDepth 8000 in
set_option maxHeartbeats 6400000 in
theorem checks_any (wd how d : Int) (la lp : Option Addr) (lc cp : Nat) (l : List (Key × Key)) (key : Key) (p : Pf) (w : World) (hw : okW wd) (hi0 : ItemsAt w la l) (hl : l.length ≤ maxLen) (hk : ∀ x ∈ l, x.1.length ≤ maxLen ∧ x.2.length ≤ maxLen) (hkey : key.length ≤ maxLen) (hp : PfIn w lp cp p)
    (hbig : p.tu.length ≤ 140737488355328 ∧ p.key.length ≤ 140737488355328 ∧ p.val.length ≤ 140737488355328 ∧ key.length ≤ 140737488355328) (hh : -9223372036854775808 ≤ how ∧ how ≤ 9223372036854775807) (hd : -9223372036854775808 ≤ d ∧ d ≤ 9223372036854775807) :
    Calls Try.prog 3 #[.int .i64 wd, .slice la l.length lc, .string (str key), pfV lp cp p, .int .i64 how, .int .i64 d] w fun e w' => e = .returned (.bool true) ∧ Below w.heap.size w w' := by
  have bA : Below w.heap.size w (w.alloc (.cells #[.slice lp p.tu.length cp, .bool p.leaf, .string (str p.key), .string (str p.val)] 25)) := (Below.refl _ _).alloc (Nat.le_refl _) _
  unfold pfV
  go_enter Try.func3, Try.ntmps3
  go_wp2_with fail
  refine (light_any la lc l _ hl (hi0.below bA)).mono ?_
  rintro e w1 ⟨hf, b1⟩
  obtain ⟨x, rfl, hx⟩ : ∃ x : Bool, e = .returned (.bool x) ∧ (x = true → l.length ≤ 1024) := hf
  have kA := Blk.new w #[.slice lp p.tu.length cp, .bool p.leaf, .string (str p.key), .string (str p.val)] 25
  generalize w.alloc (.cells #[.slice lp p.tu.length cp, .bool p.leaf, .string (str p.key), .string (str p.val)] 25) = wA at *
  have B1 := bA.trans (b1.mono bA.size)
  have k1 := kA.below b1 kA.lt
  have c0 := (k1.cell 0).trans rfl
  have c1 := (k1.cell 1).trans rfl
  have c2 := (k1.cell 2).trans rfl
  have c3 := (k1.cell 3).trans rfl
  have z1 := k1.lt
  have sk := str_size key
  have spk := str_size p.key
  have spv := str_size p.val
  have m1 := hp.cap1
  have m2 := hp.cap2
  have m3 := hp.key
  have m4 := hp.val
  cases x with
  | false =>
    go_wp2_with fail
    go_ret
    exact ⟨rfl, B1⟩
  | true =>
    have hn := hx rfl
    by_cases hb : p.tu.length + p.key.length + p.val.length + key.length > 65536
    · have e1 : (p.tu.length : Int) + (p.key.length : Int) + (p.val.length : Int) + (key.length : Int) > 65536 := by omega
      go_wp2_with fail
      go_ret
      exact ⟨rfl, B1⟩
    · have e1 : ¬ ((p.tu.length : Int) + (p.key.length : Int) + (p.val.length : Int) + (key.length : Int) > 65536) := by omega
      go_wp2_with fail
      refine (pick_any wd 8 _ hw (by omega)).mono ?_
      rintro e _ ⟨⟨r, rfl, hr0, hr8⟩, rfl⟩
      go_wp2_with fail
      refine (grown_any _ la lc l _ (by unfold okW; omega) hn hk (hi0.below B1)).mono ?_
      rintro e w2 ⟨q, ua, ⟨uc, rfl⟩, hT, hI, b2⟩
      have hg : Good (l.foldl growO none) := grow_good l none Good.none
      go_wp2_with fail
      have bB : Below w2.heap.size w2 ((w2.alloc (.cells #[.int .i64 (1 + r), .pointer q] 30)).alloc (.cells #[.int .i64 (1 + r), .slice ua (itemsO (l.foldl growO none)).length uc] 32)) := ((Below.refl _ _).alloc (Nat.le_refl _) _).alloc (by simp) _
      have kT := (Blk.new w2 #[.int .i64 (1 + r), .pointer q] 30).alloc (.cells #[.int .i64 (1 + r), .slice ua (itemsO (l.foldl growO none)).length uc] 32)
      have hTB := TopAt.below bB hT
      have B2 := B1.trans (b2.mono B1.size)
      have BB := B2.trans (bB.mono B2.size)
      have kA2 := (k1.below b2 k1.lt).below bB (Nat.lt_of_lt_of_le k1.lt b2.size)
      have HBT := show Hid (w.heap.size < w2.heap.size) from Nat.lt_of_lt_of_le k1.lt b2.size
      generalize l.foldl growO none = o at *
      generalize ((w2.alloc (.cells #[.int .i64 (1 + r), .pointer q] 30)).alloc (.cells #[.int .i64 (1 + r), .slice ua (itemsO o).length uc] 32)) = wB at *
      generalize w2.heap.size = bt at *
      have hwd : okW (1 + r) := by unfold okW; omega
      generalize 1 + r = wd' at *
      clear c0 c1 c2 c3 hT hI bB b2 b1 bA kA k1 hx
      refine (root_any wd' q o wB hwd hTB).mono ?_
      rintro e w3 ⟨rfl, b3⟩
      have B3 := BB.trans (b3.mono BB.size)
      have kT3 := kT.below b3 kT.lt
      have kA3 := kA2.below b3 kA2.lt
      have hT3 := TopAt.below b3 hTB
      have t0 := (kT3.cell 0).trans rfl
      have t1 := (kT3.cell 1).trans rfl
      have zt := kT3.lt
      have HGD := show Hid (Good o) from hg
      have HGP := show Hid (∀ t, o = some t → t.placed) from fun t ht => hg.placed t ht
      clear kT kA2 hTB b3 BB B2
      obtain ⟨RT, HRT⟩ : ∃ z, Hid (rootP wd' o = z) := ⟨_, rfl⟩
      rw [HRT.out]
      by_cases hk32 : key.length ≤ 32
      · go_wp2_with fail
        refine (prove_any wd' q o key w3 (by omega) hg hT3).mono ?_
        rintro e w4 ⟨lq, cq, rfl, hq4, b4⟩
        have hql := proveO_len wd' key o hg
        have hqf := proveO_fits wd' key o hg
        have hqe : shownE wd' RT key (proveO wd' key o) = 0 := by
          have h1 : mayE key (proveO wd' key o) = 0 := by
            unfold mayE
            rw [if_pos (prove_put wd' key o hg), if_pos ((bitsOk_all key _ _).2 hqf.bits)]
          unfold shownE
          rw [if_pos h1, if_pos (by rw [proveO_head wd' key o hg]; exact HRT.out)]
        have hqv := proveO_shown wd' key o
        have hqk : (proveO wd' key o).key.length ≤ 1000000 ∧ (proveO wd' key o).val.length ≤ 1000000 := by
          obtain ⟨_, _, a3, a4⟩ := (okP none 0 _).1 (putE_zero _ (prove_put wd' key o hg)).1
          omega
        have hq1 : (proveO wd' key o).tu.length ≤ 1000000 := by omega
        have hq2 := hqk.1
        have hq3 := hqk.2
        obtain ⟨cv, ce, clo, KK, hce, hcv⟩ : ∃ cv ce clo, ChkK wd' RT key lq cq (proveO wd' key o) cv ce clo ∧ ce (proveO wd' key o) = 0 ∧ cv (proveO wd' key o) = getO key o :=
          ⟨_, _, _, chk_short wd' RT key lq cq (proveO wd' key o) hwd hk32 hq1 hq2 hq3, hqe, by rw [check_shown hqe]; exact hqv⟩
        have hq288 : (proveO wd' key o).tu.length ≤ 1000 := by omega
        clear hqf hqe hqv hqk hql
        generalize proveO wd' key o = Q at *
        unfold pfV
        go_wp2_with fail
        have bC : Below w4.heap.size w4 (w4.alloc (.cells #[.slice lq Q.tu.length cq, .bool Q.leaf, .string (str Q.key), .string (str Q.val)] 25)) := (Below.refl _ _).alloc (Nat.le_refl _) _
        have kQ := Blk.new w4 #[.slice lq Q.tu.length cq, .bool Q.leaf, .string (str Q.key), .string (str Q.val)] 25
        have hq5 := hq4.below bC
        have B4 := B3.trans (b4.mono B3.size)
        have B5 := B4.trans (bC.mono B4.size)
        have kA4 := kA3.below b4 kA3.lt
        have kA5 := kA4.below bC kA4.lt
        have kT4 := kT3.below b4 kT3.lt
        have kT5 := kT4.below bC kT4.lt
        have hT5 := TopAt.below bC (TopAt.below b4 hT3)
        have HBQ := show Hid (w.heap.size < w4.heap.size) from kA4.lt
        generalize w4.alloc (.cells #[.slice lq Q.tu.length cq, .bool Q.leaf, .string (str Q.key), .string (str Q.val)] 25) = w5 at *
        generalize w4.heap.size = bq at *
        clear hq4 bC kT4 kA4 B4 kT3 kA3 hT3 t0 t1 zt b4 B3
        refine (pick_any how 4 w5 hh (by omega)).mono ?_
        rintro e _ ⟨⟨r4, rfl, h40, h44⟩, rfl⟩
        by_cases h4 : r4 > 0
        · have h4' : r4 > 0 := h4
          have c0 := (kQ.cell 0).trans rfl
          have c1 := (kQ.cell 1).trans rfl
          have c2 := (kQ.cell 2).trans rfl
          have c3 := (kQ.cell 3).trans rfl
          have zQ := kQ.lt
          have d0 := (kA5.cell 0).trans rfl
          have d1 := (kA5.cell 1).trans rfl
          have d2 := (kA5.cell 2).trans rfl
          have d3 := (kA5.cell 3).trans rfl
          have zA := kA5.lt
          have KT := turned_any lq lp cq cp Q p how d w5 hq5 (hp.below B5) (by omega) (by omega) hh hd
          unfold pfV at KT
          go_wp2_with fail
          refine KT.mono ?_
          rintro e wT ⟨LX, CX, X, rfl, hXT, hx1, hx2, hx3, bT⟩
          have kAT := kA5.below bT kA5.lt
          have f0 := kAT.frozen 0
          have f1 := kAT.frozen 1
          have f2 := kAT.frozen 2
          have f3 := kAT.frozen 3
          have g0 := (kAT.cell 0).trans rfl
          have g1 := (kAT.cell 1).trans rfl
          have g2 := (kAT.cell 2).trans rfl
          have g3 := (kAT.cell 3).trans rfl
          have zT := kAT.lt
          have BT := B5.trans (bT.mono B5.size)
          have kTT := set4_other (kT5.below bT kT5.lt) (show _ ≠ w.heap.size by have := HBT.out; omega) (.slice LX X.tu.length CX) (.bool X.leaf) (.string (str X.key)) (.string (str X.val))
          have kQT := set4_other (kQ.below bT kQ.lt) (show _ ≠ w.heap.size by have := HBQ.out; omega) (.slice LX X.tu.length CX) (.bool X.leaf) (.string (str X.key)) (.string (str X.val))
          have hTT := set4_top (TopAt.below bT hT5) kAT (.slice LX X.tu.length CX) (.bool X.leaf) (.string (str X.key)) (.string (str X.val))
          have hqT := set4_pf (hq5.below bT) kAT (.slice LX X.tu.length CX) (.bool X.leaf) (.string (str X.key)) (.string (str X.val))
          have hXS := set4_pf hXT kAT (.slice LX X.tu.length CX) (.bool X.leaf) (.string (str X.key)) (.string (str X.val))
          have BS := set4_below BT (Nat.le_refl w.heap.size) (.slice LX X.tu.length CX) (.bool X.leaf) (.string (str X.key)) (.string (str X.val))
          have kAS := set4_box kAT (.slice LX X.tu.length CX) (.bool X.leaf) (.string (str X.key)) (.string (str X.val))
          have HSS := show Hid (_ ∧ _ ∧ _ ∧ _ ∧ _ ∧ _ ∧ _) from ⟨kTT, kQT, hTT, hqT, hXS, BS, kAS⟩
          clear c0 c1 c2 c3 zQ d0 d1 d2 d3 zA kTT kQT hTT hqT hXS BS kAS hXT bT BT kA5 kT5 kQ hq5 hT5 KT kAT B5
          go_wp2_with fail
          obtain ⟨kT5, kQ5, hT5, hq5, hX, B5, kA5⟩ := HSS.out
          clear HSS f0 f1 f2 f3 g0 g1 g2 g3 zT
          have hxk : X.key.length ≤ 1000000 := Nat.le_trans hx2 (Nat.max_le.2 ⟨hq2, by omega⟩)
          have hxv : X.val.length ≤ 1000000 := Nat.le_trans hx3 (Nat.max_le.2 ⟨hq3, by omega⟩)
          generalize hwS : set4 wT w.heap.size (.slice LX X.tu.length CX) (.bool X.leaf) (.string (str X.key)) (.string (str X.val)) = w5 at *
          unfold set4 at hwS
          rw [hwS]
          clear hwS hx2 hx3
          have hx1 : X.tu.length ≤ 1000000 := by omega
          refine (KK.chk X LX CX w5 hX hx1 hxk hxv).mono ?_
          rintro e w6 ⟨rfl, b6⟩
          have B6 := B5.trans (b6.mono B5.size)
          have kA6 := kA5.below b6 kA5.lt
          have kQ6 := kQ5.below b6 kQ5.lt
          have kT6 := kT5.below b6 kT5.lt
          have hT6 := TopAt.below b6 hT5
          have hq6 := hq5.below b6
          have hX6 := hX.below b6
          have c0 := (kA6.cell 0).trans rfl
          have c1 := (kA6.cell 1).trans rfl
          have c2 := (kA6.cell 2).trans rfl
          have c3 := (kA6.cell 3).trans rfl
          have zA := kA6.lt
          go_wp2_with fail
          refine (KK.rchk X LX CX w6 hX6 hx1 hxk hxv).mono ?_
          rintro e w7 ⟨rfl, b7⟩
          have B7 := B6.trans (b7.mono B6.size)
          have kA7 := kA6.below b7 kA6.lt
          have kQ7 := kQ6.below b7 kQ6.lt
          have kT7 := kT6.below b7 kT6.lt
          have hT7 := TopAt.below b7 hT6
          have hq7 := hq6.below b7
          have hX7 := hX6.below b7
          clear c0 c1 c2 c3 zA kA6 kQ6 kT6 hT6 hq6 hX6 b6 b7 B6 B5 kA5 kQ5 kT5 hT5 hq5 hX
          have c0 := (kQ7.cell 0).trans rfl
          have c1 := (kQ7.cell 1).trans rfl
          have c2 := (kQ7.cell 2).trans rfl
          have c3 := (kQ7.cell 3).trans rfl
          have zA := kQ7.lt
          go_wp2_with fail
          refine (KK.chk Q lq cq w7 hq7 hq1 hq2 hq3).mono ?_
          rintro e w8 ⟨rfl, b8⟩
          have B8 := B7.trans (b8.mono B7.size)
          have kA8 := kA7.below b8 kA7.lt
          have kQ8 := kQ7.below b8 kQ7.lt
          have kT8 := kT7.below b8 kT7.lt
          have hT8 := TopAt.below b8 hT7
          have hq8 := hq7.below b8
          have hX8 := hX7.below b8
          clear c0 c1 c2 c3 zA kA7 kQ7 kT7 hT7 hq7 hX7 b8 B7
          have t0 := (kT8.cell 0).trans rfl
          have t1 := (kT8.cell 1).trans rfl
          have zt := kT8.lt
          go_wp2_with fail
          refine (get_any wd' (.pointer q) o key w8 hkey HGP.out hT8).mono ?_
          rintro e w9 ⟨rfl, b9⟩
          have B9 := B8.trans (b9.mono B8.size)
          have kA9 := kA8.below b9 kA8.lt
          have kQ9 := kQ8.below b9 kQ8.lt
          have hq9 := hq8.below b9
          have hX9 := hX8.below b9
          clear t0 t1 zt kA8 kQ8 kT8 hT8 hq8 hX8 b9 B8
          have s1 := str_toList (cv X)
          have s2 := str_toList (cv Q)
          have s3 := str_toList (getO key o)
          have c0 := (kQ9.cell 0).trans rfl
          have c1 := (kQ9.cell 1).trans rfl
          have c2 := (kQ9.cell 2).trans rfl
          have c3 := (kQ9.cell 3).trans rfl
          have zQ := kQ9.lt
          have d0 := (kA9.cell 0).trans rfl
          have d1 := (kA9.cell 1).trans rfl
          have d2 := (kA9.cell 2).trans rfl
          have d3 := (kA9.cell 3).trans rfl
          have zA := kA9.lt
          go_wp2_with fail
          refine (KK.cl X LX CX w9 hq9 hX9 hx1 hxk hxv).mono ?_
          rintro e w10 ⟨v10, rfl, ⟨t1, t2, ss1, ss2, a1, a2, n1, n2, rfl, X1, X2, l1, l2, hg1⟩, b10⟩
          have B10 := B9.trans (b10.mono B9.size)
          have kA10 := kA9.below b10 kA9.lt
          have kQ10 := kQ9.below b10 kQ9.lt
          have hq10 := hq9.below b10
          have hX10 := hX9.below b10
          clear c0 c1 c2 c3 zQ d0 d1 d2 d3 zA kA9 kQ9 hq9 hX9 b10 B9
          have c0 := (kQ10.cell 0).trans rfl
          have c1 := (kQ10.cell 1).trans rfl
          have c2 := (kQ10.cell 2).trans rfl
          have c3 := (kQ10.cell 3).trans rfl
          have zQ := kQ10.lt
          have d0 := (kA10.cell 0).trans rfl
          have d1 := (kA10.cell 1).trans rfl
          have d2 := (kA10.cell 2).trans rfl
          have d3 := (kA10.cell 3).trans rfl
          have zA := kA10.lt
          go_wp2_with fail
          have bI : Below w10.heap.size w10 ((w10.alloc (.cells #[.int .i64 t1, .slice a1 ss1.length n1] 47)).alloc (.cells #[.int .i64 t2, .slice a2 ss2.length n2] 47)) := ((Below.refl _ _).alloc (Nat.le_refl _) _).alloc (by simp) _
          have kI := (Blk.new w10 #[.int .i64 t1, .slice a1 ss1.length n1] 47).alloc (.cells #[.int .i64 t2, .slice a2 ss2.length n2] 47)
          have kJ := Blk.new (w10.alloc (.cells #[.int .i64 t1, .slice a1 ss1.length n1] 47)) #[.int .i64 t2, .slice a2 ss2.length n2] 47
          rw [World.size_alloc] at kJ
          have B11 := B10.trans (bI.mono B10.size)
          have X11 := X1.below bI
          have X12 := X2.below bI
          have hq11 := hq10.below bI
          have hX11 := hX10.below bI
          generalize ((w10.alloc (.cells #[.int .i64 t1, .slice a1 ss1.length n1] 47)).alloc (.cells #[.int .i64 t2, .slice a2 ss2.length n2] 47)) = w11 at *
          generalize w10.heap.size = ib at *
          clear c0 c1 c2 c3 zQ d0 d1 d2 d3 zA kA10 kQ10 hq10 hX10 bI B10 X1 X2
          refine (KK.rcl X LX CX w11 hq11 hX11 hx1 hxk hxv).mono ?_
          rintro e w12 ⟨v12, rfl, ⟨u1, u2, vv1, vv2, o1, o2, m1, m2, rfl, Y1, Y2, k1', k2', hg2⟩, b12⟩
          rw [hg1] at hg2
          injection hg2 with hg3 hg4
          injection hg3 with e1' e2'
          injection hg4 with e3' e4'
          subst e1' e2' e3' e4'
          have B12 := B11.trans (b12.mono B11.size)
          have kI12 := kI.below b12 kI.lt
          have kJ12 := kJ.below b12 kJ.lt
          have X21 := X11.below b12
          have X22 := X12.below b12
          clear kI kJ X11 X12 hq11 hX11 b12 B11 hg1 KK
          have i0 := (kI12.cell 0).trans rfl
          have i1 := (kI12.cell 1).trans rfl
          have zI := kI12.lt
          have j0 := (kJ12.cell 0).trans rfl
          have j1 := (kJ12.cell 1).trans rfl
          have zJ := kJ12.lt
          go_wp2_with fail
          have bX : Below w12.heap.size w12 ((w12.alloc (.cells #[.int .i64 t1, .slice o1 ss1.length m1] 47)).alloc (.cells #[.int .i64 t2, .slice o2 ss2.length m2] 47)) := ((Below.refl _ _).alloc (Nat.le_refl _) _).alloc (by simp) _
          have kY := Blk.new (w12.alloc (.cells #[.int .i64 t1, .slice o1 ss1.length m1] 47)) #[.int .i64 t2, .slice o2 ss2.length m2] 47
          rw [World.size_alloc] at kY
          have B13 := B12.trans (bX.mono B12.size)
          have kJ13 := kJ12.below bX kJ12.lt
          have Z1 := X21.below bX
          have Z2 := X22.below bX
          have Z3 := Y1.below bX
          have Z4 := Y2.below bX
          generalize ((w12.alloc (.cells #[.int .i64 t1, .slice o1 ss1.length m1] 47)).alloc (.cells #[.int .i64 t2, .slice o2 ss2.length m2] 47)) = w13 at *
          generalize w12.heap.size = yb at *
          clear i0 i1 zI j0 j1 zJ kI12 kJ12 X21 X22 Y1 Y2 bX B12
          refine (same_any t1 t1 a1 o1 n1 m1 ss1 ss1 w13 Z1 Z3 (by omega) (by omega)).mono ?_
          rintro e w14 ⟨rfl, b14⟩
          rw [show alikeP (t1, ss1) (t1, ss1) = true by simp [alikeP]]
          have B14 := B13.trans (b14.mono B13.size)
          have kJ14 := kJ13.below b14 kJ13.lt
          have kY14 := kY.below b14 kY.lt
          have W2 := Z2.below b14
          have W4 := Z4.below b14
          have j0 := (kJ14.cell 0).trans rfl
          have j1 := (kJ14.cell 1).trans rfl
          have zJ := kJ14.lt
          have y0 := (kY14.cell 0).trans rfl
          have y1 := (kY14.cell 1).trans rfl
          have zY := kY14.lt
          clear Z1 Z2 Z3 Z4 kJ13 kY b14 B13
          go_wp2_with fail
          refine (same_any t2 t2 a2 o2 n2 m2 ss2 ss2 w14 W2 W4 (by omega) (by omega)).mono ?_
          rintro e w15 ⟨rfl, b15⟩
          rw [show alikeP (t2, ss2) (t2, ss2) = true by simp [alikeP]]
          have B15 := B14.trans (b15.mono B14.size)
          clear j0 j1 zJ y0 y1 zY
          go_wp2
          go_ret
          exact ⟨rfl, B15⟩
        · have h4' : ¬ r4 > 0 := h4
          have d0 := (kA5.cell 0).trans rfl
          have d1 := (kA5.cell 1).trans rfl
          have d2 := (kA5.cell 2).trans rfl
          have d3 := (kA5.cell 3).trans rfl
          have zA := kA5.lt
          have hX := hp.below B5
          have kQ5 := kQ
          have hx1 : p.tu.length ≤ 1000000 := by omega
          have hxk : p.key.length ≤ 1000000 := by omega
          have hxv : p.val.length ≤ 1000000 := by omega
          go_wp2_with fail
          clear d0 d1 d2 d3 zA kQ
          refine (KK.chk p lp cp w5 hX hx1 hxk hxv).mono ?_
          rintro e w6 ⟨rfl, b6⟩
          have B6 := B5.trans (b6.mono B5.size)
          have kA6 := kA5.below b6 kA5.lt
          have kQ6 := kQ5.below b6 kQ5.lt
          have kT6 := kT5.below b6 kT5.lt
          have hT6 := TopAt.below b6 hT5
          have hq6 := hq5.below b6
          have hX6 := hX.below b6
          have c0 := (kA6.cell 0).trans rfl
          have c1 := (kA6.cell 1).trans rfl
          have c2 := (kA6.cell 2).trans rfl
          have c3 := (kA6.cell 3).trans rfl
          have zA := kA6.lt
          go_wp2_with fail
          refine (KK.rchk p lp cp w6 hX6 hx1 hxk hxv).mono ?_
          rintro e w7 ⟨rfl, b7⟩
          have B7 := B6.trans (b7.mono B6.size)
          have kA7 := kA6.below b7 kA6.lt
          have kQ7 := kQ6.below b7 kQ6.lt
          have kT7 := kT6.below b7 kT6.lt
          have hT7 := TopAt.below b7 hT6
          have hq7 := hq6.below b7
          have hX7 := hX6.below b7
          clear c0 c1 c2 c3 zA kA6 kQ6 kT6 hT6 hq6 hX6 b6 b7 B6 B5 kA5 kQ5 kT5 hT5 hq5 hX
          have c0 := (kQ7.cell 0).trans rfl
          have c1 := (kQ7.cell 1).trans rfl
          have c2 := (kQ7.cell 2).trans rfl
          have c3 := (kQ7.cell 3).trans rfl
          have zA := kQ7.lt
          go_wp2_with fail
          refine (KK.chk Q lq cq w7 hq7 hq1 hq2 hq3).mono ?_
          rintro e w8 ⟨rfl, b8⟩
          have B8 := B7.trans (b8.mono B7.size)
          have kA8 := kA7.below b8 kA7.lt
          have kQ8 := kQ7.below b8 kQ7.lt
          have kT8 := kT7.below b8 kT7.lt
          have hT8 := TopAt.below b8 hT7
          have hq8 := hq7.below b8
          have hX8 := hX7.below b8
          clear c0 c1 c2 c3 zA kA7 kQ7 kT7 hT7 hq7 hX7 b8 B7
          have t0 := (kT8.cell 0).trans rfl
          have t1 := (kT8.cell 1).trans rfl
          have zt := kT8.lt
          go_wp2_with fail
          refine (get_any wd' (.pointer q) o key w8 hkey HGP.out hT8).mono ?_
          rintro e w9 ⟨rfl, b9⟩
          have B9 := B8.trans (b9.mono B8.size)
          have kA9 := kA8.below b9 kA8.lt
          have kQ9 := kQ8.below b9 kQ8.lt
          have hq9 := hq8.below b9
          have hX9 := hX8.below b9
          clear t0 t1 zt kA8 kQ8 kT8 hT8 hq8 hX8 b9 B8
          have s1 := str_toList (cv p)
          have s2 := str_toList (cv Q)
          have s3 := str_toList (getO key o)
          have c0 := (kQ9.cell 0).trans rfl
          have c1 := (kQ9.cell 1).trans rfl
          have c2 := (kQ9.cell 2).trans rfl
          have c3 := (kQ9.cell 3).trans rfl
          have zQ := kQ9.lt
          have d0 := (kA9.cell 0).trans rfl
          have d1 := (kA9.cell 1).trans rfl
          have d2 := (kA9.cell 2).trans rfl
          have d3 := (kA9.cell 3).trans rfl
          have zA := kA9.lt
          go_wp2_with fail
          refine (KK.cl p lp cp w9 hq9 hX9 hx1 hxk hxv).mono ?_
          rintro e w10 ⟨v10, rfl, ⟨t1, t2, ss1, ss2, a1, a2, n1, n2, rfl, X1, X2, l1, l2, hg1⟩, b10⟩
          have B10 := B9.trans (b10.mono B9.size)
          have kA10 := kA9.below b10 kA9.lt
          have kQ10 := kQ9.below b10 kQ9.lt
          have hq10 := hq9.below b10
          have hX10 := hX9.below b10
          clear c0 c1 c2 c3 zQ d0 d1 d2 d3 zA kA9 kQ9 hq9 hX9 b10 B9
          have c0 := (kQ10.cell 0).trans rfl
          have c1 := (kQ10.cell 1).trans rfl
          have c2 := (kQ10.cell 2).trans rfl
          have c3 := (kQ10.cell 3).trans rfl
          have zQ := kQ10.lt
          have d0 := (kA10.cell 0).trans rfl
          have d1 := (kA10.cell 1).trans rfl
          have d2 := (kA10.cell 2).trans rfl
          have d3 := (kA10.cell 3).trans rfl
          have zA := kA10.lt
          go_wp2_with fail
          have bI : Below w10.heap.size w10 ((w10.alloc (.cells #[.int .i64 t1, .slice a1 ss1.length n1] 47)).alloc (.cells #[.int .i64 t2, .slice a2 ss2.length n2] 47)) := ((Below.refl _ _).alloc (Nat.le_refl _) _).alloc (by simp) _
          have kI := (Blk.new w10 #[.int .i64 t1, .slice a1 ss1.length n1] 47).alloc (.cells #[.int .i64 t2, .slice a2 ss2.length n2] 47)
          have kJ := Blk.new (w10.alloc (.cells #[.int .i64 t1, .slice a1 ss1.length n1] 47)) #[.int .i64 t2, .slice a2 ss2.length n2] 47
          rw [World.size_alloc] at kJ
          have B11 := B10.trans (bI.mono B10.size)
          have X11 := X1.below bI
          have X12 := X2.below bI
          have hq11 := hq10.below bI
          have hX11 := hX10.below bI
          generalize ((w10.alloc (.cells #[.int .i64 t1, .slice a1 ss1.length n1] 47)).alloc (.cells #[.int .i64 t2, .slice a2 ss2.length n2] 47)) = w11 at *
          generalize w10.heap.size = ib at *
          clear c0 c1 c2 c3 zQ d0 d1 d2 d3 zA kA10 kQ10 hq10 hX10 bI B10 X1 X2
          refine (KK.rcl p lp cp w11 hq11 hX11 hx1 hxk hxv).mono ?_
          rintro e w12 ⟨v12, rfl, ⟨u1, u2, vv1, vv2, o1, o2, m1, m2, rfl, Y1, Y2, k1', k2', hg2⟩, b12⟩
          rw [hg1] at hg2
          injection hg2 with hg3 hg4
          injection hg3 with e1' e2'
          injection hg4 with e3' e4'
          subst e1' e2' e3' e4'
          have B12 := B11.trans (b12.mono B11.size)
          have kI12 := kI.below b12 kI.lt
          have kJ12 := kJ.below b12 kJ.lt
          have X21 := X11.below b12
          have X22 := X12.below b12
          clear kI kJ X11 X12 hq11 hX11 b12 B11 hg1 KK
          have i0 := (kI12.cell 0).trans rfl
          have i1 := (kI12.cell 1).trans rfl
          have zI := kI12.lt
          have j0 := (kJ12.cell 0).trans rfl
          have j1 := (kJ12.cell 1).trans rfl
          have zJ := kJ12.lt
          go_wp2_with fail
          have bX : Below w12.heap.size w12 ((w12.alloc (.cells #[.int .i64 t1, .slice o1 ss1.length m1] 47)).alloc (.cells #[.int .i64 t2, .slice o2 ss2.length m2] 47)) := ((Below.refl _ _).alloc (Nat.le_refl _) _).alloc (by simp) _
          have kY := Blk.new (w12.alloc (.cells #[.int .i64 t1, .slice o1 ss1.length m1] 47)) #[.int .i64 t2, .slice o2 ss2.length m2] 47
          rw [World.size_alloc] at kY
          have B13 := B12.trans (bX.mono B12.size)
          have kJ13 := kJ12.below bX kJ12.lt
          have Z1 := X21.below bX
          have Z2 := X22.below bX
          have Z3 := Y1.below bX
          have Z4 := Y2.below bX
          generalize ((w12.alloc (.cells #[.int .i64 t1, .slice o1 ss1.length m1] 47)).alloc (.cells #[.int .i64 t2, .slice o2 ss2.length m2] 47)) = w13 at *
          generalize w12.heap.size = yb at *
          clear i0 i1 zI j0 j1 zJ kI12 kJ12 X21 X22 Y1 Y2 bX B12
          refine (same_any t1 t1 a1 o1 n1 m1 ss1 ss1 w13 Z1 Z3 (by omega) (by omega)).mono ?_
          rintro e w14 ⟨rfl, b14⟩
          rw [show alikeP (t1, ss1) (t1, ss1) = true by simp [alikeP]]
          have B14 := B13.trans (b14.mono B13.size)
          have kJ14 := kJ13.below b14 kJ13.lt
          have kY14 := kY.below b14 kY.lt
          have W2 := Z2.below b14
          have W4 := Z4.below b14
          have j0 := (kJ14.cell 0).trans rfl
          have j1 := (kJ14.cell 1).trans rfl
          have zJ := kJ14.lt
          have y0 := (kY14.cell 0).trans rfl
          have y1 := (kY14.cell 1).trans rfl
          have zY := kY14.lt
          clear Z1 Z2 Z3 Z4 kJ13 kY b14 B13
          go_wp2_with fail
          refine (same_any t2 t2 a2 o2 n2 m2 ss2 ss2 w14 W2 W4 (by omega) (by omega)).mono ?_
          rintro e w15 ⟨rfl, b15⟩
          rw [show alikeP (t2, ss2) (t2, ss2) = true by simp [alikeP]]
          have B15 := B14.trans (b15.mono B14.size)
          clear j0 j1 zJ y0 y1 zY
          go_wp2
          go_ret
          exact ⟨rfl, B15⟩
      · go_wp2_with fail
        refine (prove_long wd' q key w3 (by omega) hkey).mono ?_
        rintro e w4 ⟨rfl, b4⟩
        obtain ⟨Q, hQ⟩ : ∃ Q : Pf, Q = ⟨false, [], [], []⟩ := ⟨_, rfl⟩
        have hval : (Value.agg #[.slice none 0 0, .bool false, .string ⟨#[]⟩, .string ⟨#[]⟩]) = pfV none 0 Q := by rw [hQ]; rfl
        have hq4 : PfIn w4 none 0 Q := by rw [hQ]; exact ⟨Nat.le_refl _, Nat.zero_le _, .inl rfl, by simp, by simp, by simp⟩
        have hq1 : Q.tu.length ≤ 1000000 := by rw [hQ]; simp
        have hq288 : Q.tu.length ≤ 1000 := by rw [hQ]; simp
        have hq2 : Q.key.length ≤ 1000000 := by rw [hQ]; simp
        have hq3 : Q.val.length ≤ 1000000 := by rw [hQ]; simp
        obtain ⟨lq, cq, hval2, hq5', cv, ce, clo, KK⟩ : ∃ lq cq, (Value.agg #[.slice none 0 0, .bool false, .string ⟨#[]⟩, .string ⟨#[]⟩]) = pfV lq cq Q ∧ PfIn w4 lq cq Q ∧ ∃ cv ce clo, ChkK wd' RT key lq cq Q cv ce clo := ⟨none, 0, hval, hq4, _, _, _, chk_long wd' RT key none 0 Q (by omega) hkey⟩
        rw [hval2]
        clear hval hval2 hQ hq4
        have hq4 := hq5'
        clear hq5'
        unfold pfV
        go_wp2_with fail
        have bC : Below w4.heap.size w4 (w4.alloc (.cells #[.slice lq Q.tu.length cq, .bool Q.leaf, .string (str Q.key), .string (str Q.val)] 25)) := (Below.refl _ _).alloc (Nat.le_refl _) _
        have kQ := Blk.new w4 #[.slice lq Q.tu.length cq, .bool Q.leaf, .string (str Q.key), .string (str Q.val)] 25
        have hq5 := hq4.below bC
        have B4 := B3.trans (b4.mono B3.size)
        have B5 := B4.trans (bC.mono B4.size)
        have kA4 := kA3.below b4 kA3.lt
        have kA5 := kA4.below bC kA4.lt
        have kT4 := kT3.below b4 kT3.lt
        have kT5 := kT4.below bC kT4.lt
        have hT5 := TopAt.below bC (TopAt.below b4 hT3)
        have HBQ := show Hid (w.heap.size < w4.heap.size) from kA4.lt
        generalize w4.alloc (.cells #[.slice lq Q.tu.length cq, .bool Q.leaf, .string (str Q.key), .string (str Q.val)] 25) = w5 at *
        generalize w4.heap.size = bq at *
        clear hq4 bC kT4 kA4 B4 kT3 kA3 hT3 t0 t1 zt b4 B3
        refine (pick_any how 4 w5 hh (by omega)).mono ?_
        rintro e _ ⟨⟨r4, rfl, h40, h44⟩, rfl⟩
        by_cases h4 : r4 > 0
        · have h4' : r4 > 0 := h4
          have c0 := (kQ.cell 0).trans rfl
          have c1 := (kQ.cell 1).trans rfl
          have c2 := (kQ.cell 2).trans rfl
          have c3 := (kQ.cell 3).trans rfl
          have zQ := kQ.lt
          have d0 := (kA5.cell 0).trans rfl
          have d1 := (kA5.cell 1).trans rfl
          have d2 := (kA5.cell 2).trans rfl
          have d3 := (kA5.cell 3).trans rfl
          have zA := kA5.lt
          have KT := turned_any lq lp cq cp Q p how d w5 hq5 (hp.below B5) (by omega) (by omega) hh hd
          unfold pfV at KT
          go_wp2_with fail
          refine KT.mono ?_
          rintro e wT ⟨LX, CX, X, rfl, hXT, hx1, hx2, hx3, bT⟩
          have kAT := kA5.below bT kA5.lt
          have f0 := kAT.frozen 0
          have f1 := kAT.frozen 1
          have f2 := kAT.frozen 2
          have f3 := kAT.frozen 3
          have g0 := (kAT.cell 0).trans rfl
          have g1 := (kAT.cell 1).trans rfl
          have g2 := (kAT.cell 2).trans rfl
          have g3 := (kAT.cell 3).trans rfl
          have zT := kAT.lt
          have BT := B5.trans (bT.mono B5.size)
          have kTT := set4_other (kT5.below bT kT5.lt) (show _ ≠ w.heap.size by have := HBT.out; omega) (.slice LX X.tu.length CX) (.bool X.leaf) (.string (str X.key)) (.string (str X.val))
          have kQT := set4_other (kQ.below bT kQ.lt) (show _ ≠ w.heap.size by have := HBQ.out; omega) (.slice LX X.tu.length CX) (.bool X.leaf) (.string (str X.key)) (.string (str X.val))
          have hTT := set4_top (TopAt.below bT hT5) kAT (.slice LX X.tu.length CX) (.bool X.leaf) (.string (str X.key)) (.string (str X.val))
          have hqT := set4_pf (hq5.below bT) kAT (.slice LX X.tu.length CX) (.bool X.leaf) (.string (str X.key)) (.string (str X.val))
          have hXS := set4_pf hXT kAT (.slice LX X.tu.length CX) (.bool X.leaf) (.string (str X.key)) (.string (str X.val))
          have BS := set4_below BT (Nat.le_refl w.heap.size) (.slice LX X.tu.length CX) (.bool X.leaf) (.string (str X.key)) (.string (str X.val))
          have kAS := set4_box kAT (.slice LX X.tu.length CX) (.bool X.leaf) (.string (str X.key)) (.string (str X.val))
          have HSS := show Hid (_ ∧ _ ∧ _ ∧ _ ∧ _ ∧ _ ∧ _) from ⟨kTT, kQT, hTT, hqT, hXS, BS, kAS⟩
          clear c0 c1 c2 c3 zQ d0 d1 d2 d3 zA kTT kQT hTT hqT hXS BS kAS hXT bT BT kA5 kT5 kQ hq5 hT5 KT kAT B5
          go_wp2_with fail
          obtain ⟨kT5, kQ5, hT5, hq5, hX, B5, kA5⟩ := HSS.out
          clear HSS f0 f1 f2 f3 g0 g1 g2 g3 zT
          have hxk : X.key.length ≤ 1000000 := Nat.le_trans hx2 (Nat.max_le.2 ⟨hq2, by omega⟩)
          have hxv : X.val.length ≤ 1000000 := Nat.le_trans hx3 (Nat.max_le.2 ⟨hq3, by omega⟩)
          generalize hwS : set4 wT w.heap.size (.slice LX X.tu.length CX) (.bool X.leaf) (.string (str X.key)) (.string (str X.val)) = w5 at *
          unfold set4 at hwS
          rw [hwS]
          clear hwS hx2 hx3
          have hx1 : X.tu.length ≤ 1000000 := by omega
          refine (KK.chk X LX CX w5 hX hx1 hxk hxv).mono ?_
          rintro e w6 ⟨rfl, b6⟩
          have B6 := B5.trans (b6.mono B5.size)
          have kA6 := kA5.below b6 kA5.lt
          have kQ6 := kQ5.below b6 kQ5.lt
          have kT6 := kT5.below b6 kT5.lt
          have hT6 := TopAt.below b6 hT5
          have hq6 := hq5.below b6
          have hX6 := hX.below b6
          have c0 := (kA6.cell 0).trans rfl
          have c1 := (kA6.cell 1).trans rfl
          have c2 := (kA6.cell 2).trans rfl
          have c3 := (kA6.cell 3).trans rfl
          have zA := kA6.lt
          go_wp2_with fail
          refine (KK.rchk X LX CX w6 hX6 hx1 hxk hxv).mono ?_
          rintro e w7 ⟨rfl, b7⟩
          have B7 := B6.trans (b7.mono B6.size)
          have kA7 := kA6.below b7 kA6.lt
          have kQ7 := kQ6.below b7 kQ6.lt
          have kT7 := kT6.below b7 kT6.lt
          have hT7 := TopAt.below b7 hT6
          have hq7 := hq6.below b7
          have hX7 := hX6.below b7
          clear c0 c1 c2 c3 zA kA6 kQ6 kT6 hT6 hq6 hX6 b6 b7 B6 B5 kA5 kQ5 kT5 hT5 hq5 hX
          have c0 := (kQ7.cell 0).trans rfl
          have c1 := (kQ7.cell 1).trans rfl
          have c2 := (kQ7.cell 2).trans rfl
          have c3 := (kQ7.cell 3).trans rfl
          have zA := kQ7.lt
          go_wp2_with fail
          refine (KK.chk Q lq cq w7 hq7 hq1 hq2 hq3).mono ?_
          rintro e w8 ⟨rfl, b8⟩
          have B8 := B7.trans (b8.mono B7.size)
          have kA8 := kA7.below b8 kA7.lt
          have kQ8 := kQ7.below b8 kQ7.lt
          have kT8 := kT7.below b8 kT7.lt
          have hT8 := TopAt.below b8 hT7
          have hq8 := hq7.below b8
          have hX8 := hX7.below b8
          clear c0 c1 c2 c3 zA kA7 kQ7 kT7 hT7 hq7 hX7 b8 B7
          have t0 := (kT8.cell 0).trans rfl
          have t1 := (kT8.cell 1).trans rfl
          have zt := kT8.lt
          go_wp2_with fail
          refine (get_any wd' (.pointer q) o key w8 hkey HGP.out hT8).mono ?_
          rintro e w9 ⟨rfl, b9⟩
          have B9 := B8.trans (b9.mono B8.size)
          have kA9 := kA8.below b9 kA8.lt
          have kQ9 := kQ8.below b9 kQ8.lt
          have hq9 := hq8.below b9
          have hX9 := hX8.below b9
          clear t0 t1 zt kA8 kQ8 kT8 hT8 hq8 hX8 b9 B8
          have s1 := str_toList (cv X)
          have s2 := str_toList (cv Q)
          have s3 := str_toList (getO key o)
          have c0 := (kQ9.cell 0).trans rfl
          have c1 := (kQ9.cell 1).trans rfl
          have c2 := (kQ9.cell 2).trans rfl
          have c3 := (kQ9.cell 3).trans rfl
          have zQ := kQ9.lt
          have d0 := (kA9.cell 0).trans rfl
          have d1 := (kA9.cell 1).trans rfl
          have d2 := (kA9.cell 2).trans rfl
          have d3 := (kA9.cell 3).trans rfl
          have zA := kA9.lt
          go_wp2_with fail
          refine (KK.cl X LX CX w9 hq9 hX9 hx1 hxk hxv).mono ?_
          rintro e w10 ⟨v10, rfl, ⟨t1, t2, ss1, ss2, a1, a2, n1, n2, rfl, X1, X2, l1, l2, hg1⟩, b10⟩
          have B10 := B9.trans (b10.mono B9.size)
          have kA10 := kA9.below b10 kA9.lt
          have kQ10 := kQ9.below b10 kQ9.lt
          have hq10 := hq9.below b10
          have hX10 := hX9.below b10
          clear c0 c1 c2 c3 zQ d0 d1 d2 d3 zA kA9 kQ9 hq9 hX9 b10 B9
          have c0 := (kQ10.cell 0).trans rfl
          have c1 := (kQ10.cell 1).trans rfl
          have c2 := (kQ10.cell 2).trans rfl
          have c3 := (kQ10.cell 3).trans rfl
          have zQ := kQ10.lt
          have d0 := (kA10.cell 0).trans rfl
          have d1 := (kA10.cell 1).trans rfl
          have d2 := (kA10.cell 2).trans rfl
          have d3 := (kA10.cell 3).trans rfl
          have zA := kA10.lt
          go_wp2_with fail
          have bI : Below w10.heap.size w10 ((w10.alloc (.cells #[.int .i64 t1, .slice a1 ss1.length n1] 47)).alloc (.cells #[.int .i64 t2, .slice a2 ss2.length n2] 47)) := ((Below.refl _ _).alloc (Nat.le_refl _) _).alloc (by simp) _
          have kI := (Blk.new w10 #[.int .i64 t1, .slice a1 ss1.length n1] 47).alloc (.cells #[.int .i64 t2, .slice a2 ss2.length n2] 47)
          have kJ := Blk.new (w10.alloc (.cells #[.int .i64 t1, .slice a1 ss1.length n1] 47)) #[.int .i64 t2, .slice a2 ss2.length n2] 47
          rw [World.size_alloc] at kJ
          have B11 := B10.trans (bI.mono B10.size)
          have X11 := X1.below bI
          have X12 := X2.below bI
          have hq11 := hq10.below bI
          have hX11 := hX10.below bI
          generalize ((w10.alloc (.cells #[.int .i64 t1, .slice a1 ss1.length n1] 47)).alloc (.cells #[.int .i64 t2, .slice a2 ss2.length n2] 47)) = w11 at *
          generalize w10.heap.size = ib at *
          clear c0 c1 c2 c3 zQ d0 d1 d2 d3 zA kA10 kQ10 hq10 hX10 bI B10 X1 X2
          refine (KK.rcl X LX CX w11 hq11 hX11 hx1 hxk hxv).mono ?_
          rintro e w12 ⟨v12, rfl, ⟨u1, u2, vv1, vv2, o1, o2, m1, m2, rfl, Y1, Y2, k1', k2', hg2⟩, b12⟩
          rw [hg1] at hg2
          injection hg2 with hg3 hg4
          injection hg3 with e1' e2'
          injection hg4 with e3' e4'
          subst e1' e2' e3' e4'
          have B12 := B11.trans (b12.mono B11.size)
          have kI12 := kI.below b12 kI.lt
          have kJ12 := kJ.below b12 kJ.lt
          have X21 := X11.below b12
          have X22 := X12.below b12
          clear kI kJ X11 X12 hq11 hX11 b12 B11 hg1 KK
          have i0 := (kI12.cell 0).trans rfl
          have i1 := (kI12.cell 1).trans rfl
          have zI := kI12.lt
          have j0 := (kJ12.cell 0).trans rfl
          have j1 := (kJ12.cell 1).trans rfl
          have zJ := kJ12.lt
          go_wp2_with fail
          have bX : Below w12.heap.size w12 ((w12.alloc (.cells #[.int .i64 t1, .slice o1 ss1.length m1] 47)).alloc (.cells #[.int .i64 t2, .slice o2 ss2.length m2] 47)) := ((Below.refl _ _).alloc (Nat.le_refl _) _).alloc (by simp) _
          have kY := Blk.new (w12.alloc (.cells #[.int .i64 t1, .slice o1 ss1.length m1] 47)) #[.int .i64 t2, .slice o2 ss2.length m2] 47
          rw [World.size_alloc] at kY
          have B13 := B12.trans (bX.mono B12.size)
          have kJ13 := kJ12.below bX kJ12.lt
          have Z1 := X21.below bX
          have Z2 := X22.below bX
          have Z3 := Y1.below bX
          have Z4 := Y2.below bX
          generalize ((w12.alloc (.cells #[.int .i64 t1, .slice o1 ss1.length m1] 47)).alloc (.cells #[.int .i64 t2, .slice o2 ss2.length m2] 47)) = w13 at *
          generalize w12.heap.size = yb at *
          clear i0 i1 zI j0 j1 zJ kI12 kJ12 X21 X22 Y1 Y2 bX B12
          refine (same_any t1 t1 a1 o1 n1 m1 ss1 ss1 w13 Z1 Z3 (by omega) (by omega)).mono ?_
          rintro e w14 ⟨rfl, b14⟩
          rw [show alikeP (t1, ss1) (t1, ss1) = true by simp [alikeP]]
          have B14 := B13.trans (b14.mono B13.size)
          have kJ14 := kJ13.below b14 kJ13.lt
          have kY14 := kY.below b14 kY.lt
          have W2 := Z2.below b14
          have W4 := Z4.below b14
          have j0 := (kJ14.cell 0).trans rfl
          have j1 := (kJ14.cell 1).trans rfl
          have zJ := kJ14.lt
          have y0 := (kY14.cell 0).trans rfl
          have y1 := (kY14.cell 1).trans rfl
          have zY := kY14.lt
          clear Z1 Z2 Z3 Z4 kJ13 kY b14 B13
          go_wp2_with fail
          refine (same_any t2 t2 a2 o2 n2 m2 ss2 ss2 w14 W2 W4 (by omega) (by omega)).mono ?_
          rintro e w15 ⟨rfl, b15⟩
          rw [show alikeP (t2, ss2) (t2, ss2) = true by simp [alikeP]]
          have B15 := B14.trans (b15.mono B14.size)
          clear j0 j1 zJ y0 y1 zY
          go_wp2
          go_ret
          exact ⟨rfl, B15⟩
        · have h4' : ¬ r4 > 0 := h4
          have d0 := (kA5.cell 0).trans rfl
          have d1 := (kA5.cell 1).trans rfl
          have d2 := (kA5.cell 2).trans rfl
          have d3 := (kA5.cell 3).trans rfl
          have zA := kA5.lt
          have hX := hp.below B5
          have kQ5 := kQ
          have hx1 : p.tu.length ≤ 1000000 := by omega
          have hxk : p.key.length ≤ 1000000 := by omega
          have hxv : p.val.length ≤ 1000000 := by omega
          go_wp2_with fail
          clear d0 d1 d2 d3 zA kQ
          refine (KK.chk p lp cp w5 hX hx1 hxk hxv).mono ?_
          rintro e w6 ⟨rfl, b6⟩
          have B6 := B5.trans (b6.mono B5.size)
          have kA6 := kA5.below b6 kA5.lt
          have kQ6 := kQ5.below b6 kQ5.lt
          have kT6 := kT5.below b6 kT5.lt
          have hT6 := TopAt.below b6 hT5
          have hq6 := hq5.below b6
          have hX6 := hX.below b6
          have c0 := (kA6.cell 0).trans rfl
          have c1 := (kA6.cell 1).trans rfl
          have c2 := (kA6.cell 2).trans rfl
          have c3 := (kA6.cell 3).trans rfl
          have zA := kA6.lt
          go_wp2_with fail
          refine (KK.rchk p lp cp w6 hX6 hx1 hxk hxv).mono ?_
          rintro e w7 ⟨rfl, b7⟩
          have B7 := B6.trans (b7.mono B6.size)
          have kA7 := kA6.below b7 kA6.lt
          have kQ7 := kQ6.below b7 kQ6.lt
          have kT7 := kT6.below b7 kT6.lt
          have hT7 := TopAt.below b7 hT6
          have hq7 := hq6.below b7
          have hX7 := hX6.below b7
          clear c0 c1 c2 c3 zA kA6 kQ6 kT6 hT6 hq6 hX6 b6 b7 B6 B5 kA5 kQ5 kT5 hT5 hq5 hX
          have c0 := (kQ7.cell 0).trans rfl
          have c1 := (kQ7.cell 1).trans rfl
          have c2 := (kQ7.cell 2).trans rfl
          have c3 := (kQ7.cell 3).trans rfl
          have zA := kQ7.lt
          go_wp2_with fail
          refine (KK.chk Q lq cq w7 hq7 hq1 hq2 hq3).mono ?_
          rintro e w8 ⟨rfl, b8⟩
          have B8 := B7.trans (b8.mono B7.size)
          have kA8 := kA7.below b8 kA7.lt
          have kQ8 := kQ7.below b8 kQ7.lt
          have kT8 := kT7.below b8 kT7.lt
          have hT8 := TopAt.below b8 hT7
          have hq8 := hq7.below b8
          have hX8 := hX7.below b8
          clear c0 c1 c2 c3 zA kA7 kQ7 kT7 hT7 hq7 hX7 b8 B7
          have t0 := (kT8.cell 0).trans rfl
          have t1 := (kT8.cell 1).trans rfl
          have zt := kT8.lt
          go_wp2_with fail
          refine (get_any wd' (.pointer q) o key w8 hkey HGP.out hT8).mono ?_
          rintro e w9 ⟨rfl, b9⟩
          have B9 := B8.trans (b9.mono B8.size)
          have kA9 := kA8.below b9 kA8.lt
          have kQ9 := kQ8.below b9 kQ8.lt
          have hq9 := hq8.below b9
          have hX9 := hX8.below b9
          clear t0 t1 zt kA8 kQ8 kT8 hT8 hq8 hX8 b9 B8
          have s1 := str_toList (cv p)
          have s2 := str_toList (cv Q)
          have s3 := str_toList (getO key o)
          have c0 := (kQ9.cell 0).trans rfl
          have c1 := (kQ9.cell 1).trans rfl
          have c2 := (kQ9.cell 2).trans rfl
          have c3 := (kQ9.cell 3).trans rfl
          have zQ := kQ9.lt
          have d0 := (kA9.cell 0).trans rfl
          have d1 := (kA9.cell 1).trans rfl
          have d2 := (kA9.cell 2).trans rfl
          have d3 := (kA9.cell 3).trans rfl
          have zA := kA9.lt
          go_wp2_with fail
          refine (KK.cl p lp cp w9 hq9 hX9 hx1 hxk hxv).mono ?_
          rintro e w10 ⟨v10, rfl, ⟨t1, t2, ss1, ss2, a1, a2, n1, n2, rfl, X1, X2, l1, l2, hg1⟩, b10⟩
          have B10 := B9.trans (b10.mono B9.size)
          have kA10 := kA9.below b10 kA9.lt
          have kQ10 := kQ9.below b10 kQ9.lt
          have hq10 := hq9.below b10
          have hX10 := hX9.below b10
          clear c0 c1 c2 c3 zQ d0 d1 d2 d3 zA kA9 kQ9 hq9 hX9 b10 B9
          have c0 := (kQ10.cell 0).trans rfl
          have c1 := (kQ10.cell 1).trans rfl
          have c2 := (kQ10.cell 2).trans rfl
          have c3 := (kQ10.cell 3).trans rfl
          have zQ := kQ10.lt
          have d0 := (kA10.cell 0).trans rfl
          have d1 := (kA10.cell 1).trans rfl
          have d2 := (kA10.cell 2).trans rfl
          have d3 := (kA10.cell 3).trans rfl
          have zA := kA10.lt
          go_wp2_with fail
          have bI : Below w10.heap.size w10 ((w10.alloc (.cells #[.int .i64 t1, .slice a1 ss1.length n1] 47)).alloc (.cells #[.int .i64 t2, .slice a2 ss2.length n2] 47)) := ((Below.refl _ _).alloc (Nat.le_refl _) _).alloc (by simp) _
          have kI := (Blk.new w10 #[.int .i64 t1, .slice a1 ss1.length n1] 47).alloc (.cells #[.int .i64 t2, .slice a2 ss2.length n2] 47)
          have kJ := Blk.new (w10.alloc (.cells #[.int .i64 t1, .slice a1 ss1.length n1] 47)) #[.int .i64 t2, .slice a2 ss2.length n2] 47
          rw [World.size_alloc] at kJ
          have B11 := B10.trans (bI.mono B10.size)
          have X11 := X1.below bI
          have X12 := X2.below bI
          have hq11 := hq10.below bI
          have hX11 := hX10.below bI
          generalize ((w10.alloc (.cells #[.int .i64 t1, .slice a1 ss1.length n1] 47)).alloc (.cells #[.int .i64 t2, .slice a2 ss2.length n2] 47)) = w11 at *
          generalize w10.heap.size = ib at *
          clear c0 c1 c2 c3 zQ d0 d1 d2 d3 zA kA10 kQ10 hq10 hX10 bI B10 X1 X2
          refine (KK.rcl p lp cp w11 hq11 hX11 hx1 hxk hxv).mono ?_
          rintro e w12 ⟨v12, rfl, ⟨u1, u2, vv1, vv2, o1, o2, m1, m2, rfl, Y1, Y2, k1', k2', hg2⟩, b12⟩
          rw [hg1] at hg2
          injection hg2 with hg3 hg4
          injection hg3 with e1' e2'
          injection hg4 with e3' e4'
          subst e1' e2' e3' e4'
          have B12 := B11.trans (b12.mono B11.size)
          have kI12 := kI.below b12 kI.lt
          have kJ12 := kJ.below b12 kJ.lt
          have X21 := X11.below b12
          have X22 := X12.below b12
          clear kI kJ X11 X12 hq11 hX11 b12 B11 hg1 KK
          have i0 := (kI12.cell 0).trans rfl
          have i1 := (kI12.cell 1).trans rfl
          have zI := kI12.lt
          have j0 := (kJ12.cell 0).trans rfl
          have j1 := (kJ12.cell 1).trans rfl
          have zJ := kJ12.lt
          go_wp2_with fail
          have bX : Below w12.heap.size w12 ((w12.alloc (.cells #[.int .i64 t1, .slice o1 ss1.length m1] 47)).alloc (.cells #[.int .i64 t2, .slice o2 ss2.length m2] 47)) := ((Below.refl _ _).alloc (Nat.le_refl _) _).alloc (by simp) _
          have kY := Blk.new (w12.alloc (.cells #[.int .i64 t1, .slice o1 ss1.length m1] 47)) #[.int .i64 t2, .slice o2 ss2.length m2] 47
          rw [World.size_alloc] at kY
          have B13 := B12.trans (bX.mono B12.size)
          have kJ13 := kJ12.below bX kJ12.lt
          have Z1 := X21.below bX
          have Z2 := X22.below bX
          have Z3 := Y1.below bX
          have Z4 := Y2.below bX
          generalize ((w12.alloc (.cells #[.int .i64 t1, .slice o1 ss1.length m1] 47)).alloc (.cells #[.int .i64 t2, .slice o2 ss2.length m2] 47)) = w13 at *
          generalize w12.heap.size = yb at *
          clear i0 i1 zI j0 j1 zJ kI12 kJ12 X21 X22 Y1 Y2 bX B12
          refine (same_any t1 t1 a1 o1 n1 m1 ss1 ss1 w13 Z1 Z3 (by omega) (by omega)).mono ?_
          rintro e w14 ⟨rfl, b14⟩
          rw [show alikeP (t1, ss1) (t1, ss1) = true by simp [alikeP]]
          have B14 := B13.trans (b14.mono B13.size)
          have kJ14 := kJ13.below b14 kJ13.lt
          have kY14 := kY.below b14 kY.lt
          have W2 := Z2.below b14
          have W4 := Z4.below b14
          have j0 := (kJ14.cell 0).trans rfl
          have j1 := (kJ14.cell 1).trans rfl
          have zJ := kJ14.lt
          have y0 := (kY14.cell 0).trans rfl
          have y1 := (kY14.cell 1).trans rfl
          have zY := kY14.lt
          clear Z1 Z2 Z3 Z4 kJ13 kY b14 B13
          go_wp2_with fail
          refine (same_any t2 t2 a2 o2 n2 m2 ss2 ss2 w14 W2 W4 (by omega) (by omega)).mono ?_
          rintro e w15 ⟨rfl, b15⟩
          rw [show alikeP (t2, ss2) (t2, ss2) = true by simp [alikeP]]
          have B15 := B14.trans (b15.mono B14.size)
          clear j0 j1 zJ y0 y1 zY
          go_wp2
          go_ret
          exact ⟨rfl, B15⟩
end Go.Proofs.Ytcpjcjonlkgblaa
