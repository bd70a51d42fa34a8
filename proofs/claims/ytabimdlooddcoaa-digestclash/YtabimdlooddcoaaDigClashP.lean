/- Where two ways down part (chapter 2, D5): plain functions and facts. -/
import Derived.Test.YtabimdlooddcoaaDigSpoil
namespace Go.Proofs.Ytabimdlooddcoaa
open Go.RowKit
set_option linter.unusedVariables false

theorem byteAt_inj (a b : Int) (h : byteAt a = byteAt b) : a % 256 = b % 256 := by
  unfold byteAt at h
  have h1 := congrArg UInt8.toNat h
  simp only [UInt8.toNat_ofNat'] at h1
  omega
theorem be_inj5 (n m : Int) (hn : 0 ≤ n ∧ n ≤ 1099511627775) (hm : 0 ≤ m ∧ m ≤ 1099511627775) (h : be n 5 = be m 5) : n = m := by
  simp only [be, List.cons.injEq] at h
  obtain ⟨h4, h3, h2, h1, h0, _⟩ := h
  have a0 := byteAt_inj _ _ h0
  have a1 := byteAt_inj _ _ h1
  have a2 := byteAt_inj _ _ h2
  have a3 := byteAt_inj _ _ h3
  have a4 := byteAt_inj _ _ h4
  simp at a0 a1 a2 a3 a4
  omega
theorem be_inj8 (n m : Int) (hn : 0 ≤ n ∧ n ≤ 18446744073709551615) (hm : 0 ≤ m ∧ m ≤ 18446744073709551615) (h : be n 8 = be m 8) : n = m := by
  simp only [be, List.cons.injEq] at h
  obtain ⟨h7, h6, h5, h4, h3, h2, h1, h0, _⟩ := h
  have a0 := byteAt_inj _ _ h0
  have a1 := byteAt_inj _ _ h1
  have a2 := byteAt_inj _ _ h2
  have a3 := byteAt_inj _ _ h3
  have a4 := byteAt_inj _ _ h4
  have a5 := byteAt_inj _ _ h5
  have a6 := byteAt_inj _ _ h6
  have a7 := byteAt_inj _ _ h7
  simp at a0 a1 a2 a3 a4 a5 a6 a7
  omega
theorem str_inj (a b : List UInt8) (h : str a = str b) : a = b := by
  have h1 := congrArg ByteArray.data h
  have h2 : a.toArray = b.toArray := h1
  simpa using congrArg Array.toList h2

/-- From the root down the first place at which two ways are unlike. -/
def firstUn : List (Int × List ByteArray) → List (Int × List ByteArray) → Option ((Int × List ByteArray) × (Int × List ByteArray))
  | a :: r, b :: s => if a = b then firstUn r s else some (a, b)
  | _, _ => none

def downs (w : Int) (s : ByteArray) : List (Bool × Int) → List (Int × List ByteArray)
  | [] => [(0, [s])]
  | (t, d) :: r => (1, nodeParts t (climbD w s r) d) :: downs w s r
theorem climb_rev (w : Int) (s : ByteArray) (l : List (Bool × Int)) : (climb w s l).reverse = downs w s l := by
  induction l with
  | nil => rfl
  | cons p r ih =>
    obtain ⟨t, d⟩ := p
    simp only [climb, List.reverse_append, List.reverse_cons, List.reverse_nil, List.nil_append, List.singleton_append, ih, downs]
theorem up_rev (w : Int) (s : ByteArray) (c : Int) (l : List (Bool × Int)) : (upP w s c l).reverse = (2, [str (be c 5), str (be (climbD w s l) 8)]) :: downs w s l := by
  unfold upP
  rw [List.reverse_append, climb_rev]; rfl

theorem nodeParts_inj (b : Bool) (x y d e : Int) (hx : 0 ≤ x ∧ x ≤ 18446744073709551615) (hy : 0 ≤ y ∧ y ≤ 18446744073709551615) (h : nodeParts b x d = nodeParts b y e) : x = y := by
  cases b
  · simp only [nodeParts] at h
    simp at h
    exact be_inj8 x y hx hy (str_inj _ _ h.1)
  · simp only [nodeParts] at h
    simp at h
    exact be_inj8 x y hx hy (str_inj _ _ h.2)

/-- Two ways of the same turns to one digest, from unlike leaves: they part at images of one digest. -/
theorem downs_part (w : Int) (s t : ByteArray) (hst : s ≠ t) : ∀ (l m : List (Bool × Int)), l.map Prod.fst = m.map Prod.fst → climbD w s l = climbD w t m →
    ∃ x y, firstUn (downs w s l) (downs w t m) = some (x, y) ∧ x ≠ y ∧ ofP w x.1 x.2 = ofP w y.1 y.2 := by
  intro l
  induction l with
  | nil =>
    intro m hm hd
    cases m with
    | nil =>
      refine ⟨(0, [s]), (0, [t]), ?_, by simpa using hst, hd⟩
      simp only [downs, firstUn]
      rw [if_neg (by simpa using hst)]
    | cons p r => simp at hm
  | cons p r ih =>
    intro m hm hd
    cases m with
    | nil => simp at hm
    | cons p' r' =>
      obtain ⟨b, d⟩ := p
      obtain ⟨b', d'⟩ := p'
      simp only [List.map_cons, List.cons.injEq] at hm
      obtain ⟨rfl, hm⟩ := hm
      simp only [downs, firstUn]
      by_cases he : ((1 : Int), nodeParts b (climbD w s r) d) = (1, nodeParts b (climbD w t r') d')
      · rw [if_pos he]
        refine ih r' hm ?_
        have h2 := congrArg Prod.snd he
        exact nodeParts_inj b _ _ d d' (climbD_bd _ _ _) (climbD_bd _ _ _) h2
      · rw [if_neg he]
        exact ⟨_, _, rfl, he, hd⟩

def wayP (w : Int) (s : ByteArray) (n i : Nat) (ds : List Int) : List (Int × List ByteArray) := (upP w s (n : Int) (List.zip (turnsP n i) ds)).reverse

theorem fst_zip (T : List Bool) (ds : List Int) (h : T.length = ds.length) : (List.zip T ds).map Prod.fst = T := by
  rw [List.map_fst_zip]
  omega

/-- D5. -/
theorem ways_part (w : Int) (s t : ByteArray) (n m i : Nat) (ds es : List Int) (hst : s ≠ t) (hn : n ≤ 1099511627775) (hm : m ≤ 1099511627775) (hl : (turnsP n i).length = ds.length) (hk : (turnsP m i).length = es.length)
    (he : topP w s (n : Int) (List.zip (turnsP n i) ds) = topP w t (m : Int) (List.zip (turnsP m i) es)) :
    ∃ x y, firstUn (wayP w s n i ds) (wayP w t m i es) = some (x, y) ∧ x ≠ y ∧ ofP w x.1 x.2 = ofP w y.1 y.2 := by
  unfold wayP
  rw [up_rev, up_rev]
  simp only [firstUn]
  by_cases hh : ((2 : Int), [str (be (n : Int) 5), str (be (climbD w s (List.zip (turnsP n i) ds)) 8)]) = (2, [str (be (m : Int) 5), str (be (climbD w t (List.zip (turnsP m i) es)) 8)])
  · rw [if_pos hh]
    have h2 := congrArg Prod.snd hh
    simp only [List.cons.injEq] at h2
    have hnm := be_inj5 (n : Int) (m : Int) (by omega) (by omega) (str_inj _ _ h2.1)
    have hnm' : n = m := by omega
    subst hnm'
    have hx := be_inj8 _ _ (climbD_bd _ _ _) (climbD_bd _ _ _) (str_inj _ _ h2.2.1)
    exact downs_part w s t hst _ _ (by rw [fst_zip _ _ hl, fst_zip _ _ hk]) hx
  · rw [if_neg hh]
    exact ⟨_, _, rfl, hh, he⟩
end Go.Proofs.Ytabimdlooddcoaa
