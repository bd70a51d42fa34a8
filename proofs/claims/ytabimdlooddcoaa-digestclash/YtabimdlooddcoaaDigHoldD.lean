/- Whether a leaf is held (chapter 2, D4): the program's way; and which of several the statement picks. -/
import Derived.Test.YtabimdlooddcoaaDigWayB
namespace Go.Proofs.Ytabimdlooddcoaa
open Go.RowKit
set_option linter.unusedVariables false

/-- Does the first image of a way have that digest? -/
def leadsP (w root : Int) (I : List (Int × List ByteArray)) : Bool := match I with
  | [] => false
  | i :: _ => ofP w i.1 i.2 == root

theorem up_small (w : Int) (s : ByteArray) (c : Int) (l : List (Bool × Int)) : ∀ i ∈ upP w s c l, i.2.length ≤ 2 := by
  have hc : ∀ i ∈ climb w s l, i.2.length ≤ 2 := by
    induction l with
    | nil => intro i hi; simp [climb] at hi; subst hi; simp
    | cons p r ih =>
      obtain ⟨t, d⟩ := p
      intro i hi
      rcases List.mem_append.1 hi with h | h
      · exact ih i h
      · simp at h; subst h
        cases t <;> simp [nodeParts]
  intro i hi
  rcases List.mem_append.1 hi with h | h
  · exact hc i h
  · simp at h; subst h; simp

theorem leads_up (w root : Int) (s : ByteArray) (c : Int) (l : List (Bool × Int)) : leadsP w root (upP w s c l).reverse = (topP w s c l == root) := by
  unfold upP
  rw [List.reverse_append]
  rfl

set_option maxHeartbeats 800000 in
theorem leads_any (wd root : Int) (v : Value) (E : List Ent) (w : World) (hw : -9223372036854775808 ≤ wd ∧ wd ≤ 9223372036854775807) (hE : Imgs w v E) (hsm : ∀ e ∈ E, e.ss.length ≤ 2) :
    Calls Try.prog 36 #[.int .i64 wd, .int .u64 root, v] w fun e w' => e = .returned (.bool (leadsP wd root (E.map Ent.img))) ∧ Below w.heap.size w w' := by
  obtain ⟨ho, ⟨rfl, rfl⟩ | ⟨g, cap, cur, rfl, hc1, hc2, kB, hH⟩⟩ := hE
  · go_enter Try.func36, Try.ntmps36
    go_wp2
    go_ret
    exact ⟨rfl, Below.refl _ _⟩
  · match E, ho, hc1, hH, hsm with
    | [], _, _, _, _ =>
      go_enter Try.func36, Try.ntmps36
      go_wp2
      go_ret
      exact ⟨rfl, Below.refl _ _⟩
    | e :: r, ho, hc1, hH, hsm =>
      have h0 := hH 0 (by simp)
      have q0 := kB.cell 0
      have q1 := kB.cell 1
      simp only [List.getD, List.getElem?_cons_zero, Option.getD_some] at h0
      simp only [Nat.zero_mul, Nat.zero_add] at h0
      rw [h0.1] at q0
      rw [h0.2] at q1
      have hS := (ho e List.mem_cons_self).1
      have hl := hsm e List.mem_cons_self
      have hlen : ((0 : Int) < ((e :: r).length : Int)) := by simp
      have hbig : (e :: r).length ≤ 9223372036854775807 := by unfold maxLen at hc2; omega
      have hfin : leadsP wd root ((e :: r).map Ent.img) = (ofP wd e.tag e.ss == root) := rfl
      rw [hfin]
      generalize (e :: r).length = L at *
      obtain ⟨tg, ea, ec, es⟩ := e
      simp only at q0 q1 hS hl hfin ⊢
      clear hH h0 hsm ho hfin
      go_enter Try.func36, Try.ntmps36
      go_wp2_with fail
      refine (ofImage_any wd tg ea es.length ec es _ hw rfl (by unfold maxLen; omega) hS).mono ?_
      rintro e w1 ⟨rfl, b1⟩
      go_wp2
      go_ret
      exact ⟨rfl, b1⟩

theorem inR_cases2 (c i : Int) : (inR c i = false ∧ (c < 1 ∨ (1 ≤ c ∧ 1099511627775 < c) ∨ (1 ≤ c ∧ c ≤ 1099511627775 ∧ i < 0) ∨ (1 ≤ c ∧ c ≤ 1099511627775 ∧ 0 ≤ i ∧ c ≤ i))) ∨ ∃ n k : Nat, c = n ∧ i = k ∧ k < n ∧ n ≤ 1099511627775 := by
  rcases inR_cases c i with ⟨h, h2⟩ | h
  · exact .inl ⟨h, by omega⟩
  · exact .inr h

set_option maxHeartbeats 800000 in
theorem holds_any (wd root c i : Int) (s : ByteArray) (v : Value) (w : World) (ds : List Int) (hw : -9223372036854775808 ≤ wd ∧ wd ≤ 9223372036854775807) (hss : s.size ≤ maxLen) (hr : Row w v (ds.map (Value.int .u64))) (hd : ∀ d ∈ ds, 0 ≤ d ∧ d ≤ 18446744073709551615) :
    Calls Try.prog 15 #[.int .i64 wd, .int .u64 root, .string s, .agg #[.int .i64 c, .int .i64 i, v]] w fun e w' => e = .returned (.bool (holdsP wd root s c i ds)) ∧ Below w.heap.size w w' := by
  obtain ⟨va, vc, hv⟩ := hr.form
  have bA : Below w.heap.size w (w.alloc (.cells #[.int .i64 c, .int .i64 i, v] 34)) := (Below.refl _ _).alloc (Nat.le_refl _) _
  have hr1 := hr.below bA
  subst hv
  rw [List.length_map] at *
  rcases inR_cases2 c i with ⟨ho, hout⟩ | ⟨n, k, rfl, rfl, hk, hn⟩
  · rw [holdsP_out wd root s c i ds ho]
    have Hout := show Hid (_ ∨ _) from hout
    clear hout
    go_enter Try.func15, Try.ntmps15
    go_wp2_with fail
    refine (way_range wd c i s _ _ ds hr1 Hout.out).mono ?_
    rintro e w1 ⟨rfl, b1⟩
    go_wp2_with fail
    refine (leads_any wd root _ [] _ hw ⟨by intro e he; simp at he, .inl ⟨rfl, rfl⟩⟩ (by simp)).mono ?_
    rintro e w2 ⟨rfl, b2⟩
    go_wp2
    go_ret
    have b1' := bA.trans (b1.mono bA.size)
    exact ⟨rfl, b1'.trans (b2.mono b1'.size)⟩
  · go_enter Try.func15, Try.ntmps15
    go_wp2_with fail
    refine (way_any wd n k s _ _ ds hw hss hr1 hd hk hn).mono ?_
    rintro e w1 ⟨b1, ⟨hne, rfl⟩ | ⟨he, sv, E, rfl, hI, hM⟩⟩
    · go_wp2_with fail
      refine (leads_any wd root _ [] _ hw ⟨by intro e he; simp at he, .inl ⟨rfl, rfl⟩⟩ (by simp)).mono ?_
      rintro e w2 ⟨rfl, b2⟩
      go_wp2
      go_ret
      have b1' := bA.trans (b1.mono bA.size)
      exact ⟨ret_bool (holdsP_len wd root s n k ds hne).symm, b1'.trans (b2.mono b1'.size)⟩
    · have hsm : ∀ e ∈ E, e.ss.length ≤ 2 := fun e he => by
        have h1 : e.img ∈ E.map Ent.img := List.mem_map.2 ⟨e, he, rfl⟩
        rw [hM] at h1
        exact up_small _ _ _ _ _ (List.mem_reverse.1 h1)
      have HM := show Hid (_ = _) from hM
      clear hM
      go_wp2_with fail
      refine (leads_any wd root _ E _ hw hI hsm).mono ?_
      rintro e w2 ⟨rfl, b2⟩
      go_wp2
      go_ret
      have b1' := bA.trans (b1.mono bA.size)
      exact ⟨ret_bool (by rw [HM.out, leads_up, holdsP_yes wd root s n k ds hk hn he]), b1'.trans (b2.mono b1'.size)⟩

theorem pick_any (c n : Int) (w : World) (hc : -9223372036854775808 ≤ c ∧ c ≤ 9223372036854775807) (hn : 1 ≤ n ∧ n ≤ 9223372036854775807) :
    Calls Try.prog 17 #[.int .i64 c, .int .i64 n] w fun e w' => (∃ r, e = .returned (.int .i64 r) ∧ 0 ≤ r ∧ r < n) ∧ w = w' := by
  by_cases h : c < 0
  · have hq := Int.emod_nonneg (-(c + 1)) (show n ≠ 0 by omega)
    have hq2 := Int.emod_lt_of_pos (-(c + 1)) (show 0 < n by omega)
    go_enter Try.func17, Try.ntmps17
    go_wp2
    go_ret
    have e : -((c + 1).tmod n) = -(c + 1) % n := by rw [← Int.neg_tmod, Int.tmod_eq_emod_of_nonneg (by omega)]
    rw [← e] at hq hq2
    exact ⟨⟨_, rfl, hq, hq2⟩, rfl⟩
  · have hq := Int.emod_nonneg c (show n ≠ 0 by omega)
    have hq2 := Int.emod_lt_of_pos c (show 0 < n by omega)
    go_enter Try.func17, Try.ntmps17
    go_wp2
    go_ret
    exact ⟨⟨_, rfl, hq, hq2⟩, rfl⟩
end Go.Proofs.Ytabimdlooddcoaa
