/- Whether a leaf is held (chapter 2, D4): the answer's way. -/
import Derived.Test.YtabimdlooddcoaaDigUp
namespace Go.Proofs.Ytabimdlooddcoaa
open Go.RowKit
set_option linter.unusedVariables false

def inR (c i : Int) : Bool := decide (1 ≤ c) && decide (c ≤ 1099511627775) && decide (0 ≤ i) && decide (i < c)
/-- D4. -/
def holdsP (w root : Int) (s : ByteArray) (c i : Int) (ds : List Int) : Bool :=
  inR c i && (((turnsP c.toNat i.toNat).length == ds.length) && (topP w s c (List.zip (turnsP c.toNat i.toNat) ds) == root))
theorem holdsP_out (w root : Int) (s : ByteArray) (c i : Int) (ds : List Int) (h : inR c i = false) : holdsP w root s c i ds = false := by
  unfold holdsP; rw [h]; rfl
theorem holdsP_len (w root : Int) (s : ByteArray) (n i : Nat) (ds : List Int) (h : (turnsP n i).length ≠ ds.length) : holdsP w root s (n : Int) (i : Int) ds = false := by
  unfold holdsP
  rw [Int.toNat_natCast, Int.toNat_natCast, beq_eq_false_iff_ne.2 h]; simp
theorem inR_in (n i : Nat) (hi : i < n) (hn : n ≤ 1099511627775) : inR (n : Int) (i : Int) = true := by
  unfold inR; simp; omega
theorem holdsP_yes (w root : Int) (s : ByteArray) (n i : Nat) (ds : List Int) (hi : i < n) (hn : n ≤ 1099511627775) (h : (turnsP n i).length = ds.length) :
    holdsP w root s (n : Int) (i : Int) ds = (topP w s (n : Int) (List.zip (turnsP n i) ds) == root) := by
  unfold holdsP
  rw [inR_in n i hi hn, Int.toNat_natCast, Int.toNat_natCast, h]; simp
theorem inR_cases (c i : Int) : (inR c i = false ∧ (i < 0 ∨ (0 ≤ i ∧ c ≤ i) ∨ (0 ≤ i ∧ i < c ∧ 1099511627775 < c))) ∨ ∃ n k : Nat, c = n ∧ i = k ∧ k < n ∧ n ≤ 1099511627775 := by
  by_cases h : 1 ≤ c ∧ c ≤ 1099511627775 ∧ 0 ≤ i ∧ i < c
  · right
    exact ⟨c.toNat, i.toNat, by omega, by omega, by omega, by omega⟩
  · left
    refine ⟨?_, by omega⟩
    unfold inR
    cases h1 : decide (1 ≤ c) <;> cases h2 : decide (c ≤ 1099511627775) <;> cases h3 : decide (0 ≤ i) <;> cases h4 : decide (i < c) <;> try rfl
    simp at h1 h2 h3 h4
    omega

theorem ret_bool {a b : Bool} (h : a = b) : Ending.returned (.bool a) = .returned (.bool b) := by rw [h]

set_option maxHeartbeats 400000 in
theorem imgDig_any (wd tag : Int) (a : Option Addr) (len cap : Nat) (ss : List ByteArray) (w : World) (hw : -9223372036854775808 ≤ wd ∧ wd ≤ 9223372036854775807) (hl : ss.length = len) (hm : len ≤ maxLen) (hs : Strs w a ss) :
    Calls Try.prog 39 #[.int .i64 wd, .agg #[.int .i64 tag, .slice a len cap]] w fun e w' => e = .returned (.int .u64 (ofP wd tag ss)) ∧ Below w.heap.size w w' := by
  go_enter Try.func39, Try.ntmps39
  go_wp2_with fail
  refine (rof_any wd tag a len cap ss _ hw hl hm (hs.below ((Below.refl _ _).alloc (Nat.le_refl _) _))).mono ?_
  rintro e w1 ⟨rfl, b1⟩
  go_wp2
  go_ret
  exact ⟨rfl, ((Below.refl _ _).alloc (Nat.le_refl _) _).trans (b1.mono (by simp))⟩

set_option maxHeartbeats 800000 in
theorem rholds_any (wd root c i : Int) (s : ByteArray) (v : Value) (w : World) (ds : List Int) (hw : -9223372036854775808 ≤ wd ∧ wd ≤ 9223372036854775807) (hss : s.size ≤ maxLen) (hr : Row w v (ds.map (Value.int .u64))) (hd : ∀ d ∈ ds, 0 ≤ d ∧ d ≤ 18446744073709551615) :
    Calls Try.prog 18 #[.int .i64 wd, .int .u64 root, .string s, .agg #[.int .i64 c, .int .i64 i, v]] w fun e w' => e = .returned (.bool (holdsP wd root s c i ds)) ∧ Below w.heap.size w w' := by
  obtain ⟨va, vc, hv⟩ := hr.form
  have bA : Below w.heap.size w (w.alloc (.cells #[.int .i64 c, .int .i64 i, v] 34)) := (Below.refl _ _).alloc (Nat.le_refl _) _
  have hr1 := hr.below bA
  subst hv
  rw [List.length_map] at *
  rcases inR_cases c i with ⟨ho, hout⟩ | ⟨n, k, rfl, rfl, hk, hn⟩
  · rw [holdsP_out wd root s c i ds ho]
    have Hout := show Hid (_ ∨ _) from hout
    clear hout
    go_enter Try.func18, Try.ntmps18
    go_wp2_with fail
    refine (rup_range wd c i s _ _ ds hr1 Hout.out).mono ?_
    rintro e w1 ⟨rfl, b1⟩
    go_wp2
    go_ret
    exact ⟨rfl, bA.trans (b1.mono bA.size)⟩
  · go_enter Try.func18, Try.ntmps18
    go_wp2_with fail
    refine (rup_any wd n k s _ _ ds hw hss hr1 hd hk hn).mono ?_
    rintro e w1 ⟨b1, ⟨hne, rfl⟩ | ⟨he, sv, E, rfl, hO, hE, hM⟩⟩
    · go_wp2
      go_ret
      exact ⟨ret_bool (holdsP_len wd root s n k ds hne).symm, bA.trans (b1.mono bA.size)⟩
    · have hfin := holdsP_yes wd root s n k ds hk hn he
      obtain ⟨E0, e, rfl⟩ : ∃ E0 e, E = E0 ++ [e] := by
        have h1 : E ≠ [] := by
          intro h2; subst h2
          simp [upP] at hM
        exact ⟨E.dropLast, E.getLast h1, (List.dropLast_concat_getLast h1).symm⟩
      have hM2 : e.img = (2, [str (be (n : Int) 5), str (be (climbD wd s (List.zip (turnsP n k) ds)) 8)]) := by
        have h1 := congrArg List.getLast? hM
        simpa [upP] using h1
      obtain ⟨ea, ec, hea⟩ : ∃ ea ec, e.cells = [.int .i64 2, .slice ea 2 ec] ∧ Strs w1 ea [str (be (n : Int) 5), str (be (climbD wd s (List.zip (turnsP n k) ds)) 8)] := by
        have h1 := (hE e (List.mem_append_right _ (List.mem_singleton.2 rfl))).1
        obtain ⟨tg, ea, ec, es⟩ := e
        simp [Ent.img] at hM2
        obtain ⟨rfl, rfl⟩ := hM2
        exact ⟨ea, ec, rfl, h1⟩
      have hlen : (E0 ++ [e]).length = E0.length + 1 := by simp
      rw [hlen] at hO
      obtain ⟨g, gc, rfl⟩ : ∃ g gc, sv = .slice (some ⟨g, 0, none⟩) (E0.length + 1) gc := by
        rcases hO.2 with ⟨_, h⟩ | ⟨g, c, cu, h, _⟩
        · omega
        · exact ⟨g, c, h⟩
      have hfl : flat (E0 ++ [e]) = flat E0 ++ [.int .i64 2, .slice ea 2 ec] := by rw [flat_snoc, hea.1]
      have q0 := hO.cellAt (E0.length * 2) (by omega)
      have q1 := hO.cellAt (E0.length * 2 + 1) (by omega)
      have hl0 := flat_len E0
      rw [hfl, List.getElem?_append_right (by omega), hl0] at q0 q1
      rw [Nat.sub_self] at q0
      rw [show E0.length * 2 + 1 - E0.length * 2 = 1 by omega] at q1
      simp only [List.getElem?_cons_zero, List.getElem?_cons_succ] at q0 q1
      have hbig : E0.length + 1 ≤ gc ∧ gc ≤ maxLen := by
        rcases hO.2 with ⟨h, _⟩ | ⟨g', c', cu, h, _, _, h1, h2, _⟩
        · simp at h
        · simp at h; omega
      have hbig2 : (E0.length : Int) + 1 ≤ 9223372036854775807 := by have := hbig.1; have := hbig.2; unfold maxLen at *; omega
      go_wp2_with fail
      refine (imgDig_any wd 2 ea 2 ec _ _ hw rfl (by unfold maxLen; omega) hea.2).mono ?_
      rintro e w2 ⟨rfl, b2⟩
      go_wp2
      go_ret
      have b1' := bA.trans (b1.mono bA.size)
      exact ⟨ret_bool (by rw [hfin]; rfl), b1'.trans (b2.mono b1'.size)⟩
end Go.Proofs.Ytabimdlooddcoaa
