/- Proofs of a tree: what they show, and where two ways part (no program). -/
import Derived.Test.YtfjkgglflmakhaaDoorTPut4
namespace Go.Proofs.YtfjkgglflmakhaaDoor
open Go.RowKit
set_option linter.unusedVariables false

theorem byteAt_inj (a b : Int) (h : byteAt a = byteAt b) : a % 256 = b % 256 := by
  unfold byteAt at h
  have h1 := congrArg UInt8.toNat h
  simp only [UInt8.toNat_ofNat'] at h1
  omega
theorem be_inj5 (n m : Int) (hn : 0 ≤ n ∧ n ≤ 1099511627775) (hm : 0 ≤ m ∧ m ≤ 1099511627775) (h : be n 5 = be m 5) : n = m := by
  simp only [be, List.cons.injEq] at h
  obtain ⟨h4, h3, h2, h1, h0, _⟩ := h
  have a0 := byteAt_inj _ _ h0
  have a1 := byteAt_inj _ _ h1
  have a2 := byteAt_inj _ _ h2
  have a3 := byteAt_inj _ _ h3
  have a4 := byteAt_inj _ _ h4
  simp at a0 a1 a2 a3 a4
  omega
theorem be_inj8 (n m : Int) (hn : 0 ≤ n ∧ n ≤ 18446744073709551615) (hm : 0 ≤ m ∧ m ≤ 18446744073709551615) (h : be n 8 = be m 8) : n = m := by
  simp only [be, List.cons.injEq] at h
  obtain ⟨h7, h6, h5, h4, h3, h2, h1, h0, _⟩ := h
  have a0 := byteAt_inj _ _ h0
  have a1 := byteAt_inj _ _ h1
  have a2 := byteAt_inj _ _ h2
  have a3 := byteAt_inj _ _ h3
  have a4 := byteAt_inj _ _ h4
  have a5 := byteAt_inj _ _ h5
  have a6 := byteAt_inj _ _ h6
  have a7 := byteAt_inj _ _ h7
  simp at a0 a1 a2 a3 a4 a5 a6 a7
  omega
/-- From the root down the first place at which two ways are unlike. -/
def firstUn : List (Int × List ByteArray) → List (Int × List ByteArray) → Option ((Int × List ByteArray) × (Int × List ByteArray))
  | a :: r, b :: s => if a = b then firstUn r s else some (a, b)
  | _, _ => none

/-- A proof. -/
structure Pf where
  leaf : Bool
  key : Key
  val : Key
  tu : List (Int × Int)

/-- A fork's image above a digest, as a turn says. -/
def forkImg (key : Key) (t : Int × Int) (d : Int) : Int × List ByteArray := (4, if bitP key t.1.toNat = 1 then forkParts t.1 t.2 d else forkParts t.1 d t.2)
def leafImg (key val : Key) : Int × List ByteArray := (3, [str key, str val])
def digI (wd : Int) (i : Int × List ByteArray) : Int := ofP wd i.1 i.2
/-- The digest at the top of some turns. -/
def upsD (wd : Int) (key val : Key) : List (Int × Int) → Int
  | [] => digI wd (leafImg key val)
  | t :: ts => digI wd (forkImg key t (upsD wd key val ts))
/-- The images, from the top down. -/
def ups (wd : Int) (key val : Key) : List (Int × Int) → List (Int × List ByteArray)
  | [] => [leafImg key val]
  | t :: ts => forkImg key t (upsD wd key val ts) :: ups wd key val ts
theorem upsD_bd (wd : Int) (key val : Key) (ts : List (Int × Int)) : 0 ≤ upsD wd key val ts ∧ upsD wd key val ts ≤ 18446744073709551615 := by
  cases ts <;> exact ofP_bd _ _ _
def wayP (wd : Int) (p : Pf) : List (Int × List ByteArray) := if p.leaf then (5, [str (be (upsD wd p.key p.val p.tu) 8)]) :: ups wd p.key p.val p.tu else [(5, [])]
def headD (wd : Int) (p : Pf) : Int := if p.leaf then ofP wd 5 [str (be (upsD wd p.key p.val p.tu) 8)] else ofP wd 5 []
/-- The value that is shown. -/
def shownV (key : Key) (p : Pf) : Key := if p.key = key then p.val else []
/-- What a proof is that may be, as far as this wants it. -/
structure Pf.fits (key : Key) (p : Pf) : Prop where
  pos : ∀ t ∈ p.tu, 0 ≤ t.1 ∧ t.1 < 288
  side : ∀ t ∈ p.tu, 0 ≤ t.2 ∧ t.2 ≤ 18446744073709551615
  bits : ∀ t ∈ p.tu, bitP key t.1.toNat = bitP p.key t.1.toNat
  bare : p.leaf = false → p.val = []

/-- A clash: two unlike images of one digest. -/
def Clashes (wd : Int) (l m : List (Int × List ByteArray)) : Prop := ∃ a b, firstUn l m = some (a, b) ∧ a ≠ b ∧ digI wd a = digI wd b

theorem clash_here (wd : Int) (a b : Int × List ByteArray) (l m : List (Int × List ByteArray)) (h : a ≠ b) (hd : digI wd a = digI wd b) : Clashes wd (a :: l) (b :: m) :=
  ⟨a, b, by simp [firstUn, h], h, hd⟩
theorem clash_next (wd : Int) (a : Int × List ByteArray) (l m : List (Int × List ByteArray)) (h : Clashes wd l m) : Clashes wd (a :: l) (a :: m) := by
  obtain ⟨x, y, h1, h2⟩ := h
  exact ⟨x, y, by simpa [firstUn] using h1, h2⟩

theorem forkImg_inj (key k1 k2 : Key) (t u : Int × Int) (d e : Int) (ht : 0 ≤ t.1 ∧ t.1 < 288) (hu : 0 ≤ u.1 ∧ u.1 < 288) (hts : 0 ≤ t.2 ∧ t.2 ≤ 18446744073709551615) (hus : 0 ≤ u.2 ∧ u.2 ≤ 18446744073709551615) (hd : 0 ≤ d ∧ d ≤ 18446744073709551615) (he : 0 ≤ e ∧ e ≤ 18446744073709551615)
    (h1 : bitP key t.1.toNat = bitP k1 t.1.toNat) (h2 : bitP key u.1.toNat = bitP k2 u.1.toNat) (h : forkImg k1 t d = forkImg k2 u e) : d = e := by
  unfold forkImg at h
  rw [← h1, ← h2] at h
  have h3 := congrArg Prod.snd h
  simp only at h3
  have hpos : t.1 = u.1 := by
    have h4 := congrArg (fun l => l[0]?) h3
    have e1 : ∀ (b : Prop) [Decidable b] (p x y : Int), (if b then forkParts p x y else forkParts p y x)[0]? = some (str (be p 5)) := fun b _ p x y => by split <;> rfl
    simp only [e1, Option.some.injEq] at h4
    exact be_inj5 _ _ (by omega) (by omega) (str_inj h4)
  rw [← hpos] at h3
  by_cases hb : bitP key t.1.toNat = 1
  · simp only [hb, if_true, forkParts, List.cons.injEq, and_true] at h3
    exact be_inj8 _ _ hd he (str_inj h3.2.2)
  · simp only [hb, if_false, forkParts, List.cons.injEq, and_true] at h3
    exact be_inj8 _ _ hd he (str_inj h3.2.1)

theorem ups_binds (wd : Int) (key k1 v1 k2 v2 : Key) : ∀ (ts us : List (Int × Int)), (∀ t ∈ ts, 0 ≤ t.1 ∧ t.1 < 288) → (∀ t ∈ ts, 0 ≤ t.2 ∧ t.2 ≤ 18446744073709551615) → (∀ t ∈ ts, bitP key t.1.toNat = bitP k1 t.1.toNat) →
    (∀ t ∈ us, 0 ≤ t.1 ∧ t.1 < 288) → (∀ t ∈ us, 0 ≤ t.2 ∧ t.2 ≤ 18446744073709551615) → (∀ t ∈ us, bitP key t.1.toNat = bitP k2 t.1.toNat) →
    upsD wd k1 v1 ts = upsD wd k2 v2 us → Clashes wd (ups wd k1 v1 ts) (ups wd k2 v2 us) ∨ (k1 = k2 ∧ v1 = v2)
  | [], [], _, _, _, _, _, _, h => by
    by_cases e : leafImg k1 v1 = leafImg k2 v2
    · right
      simp only [leafImg, Prod.mk.injEq, List.cons.injEq, and_true, true_and] at e
      exact ⟨str_inj e.1, str_inj e.2⟩
    · exact .inl (clash_here wd _ _ _ _ e h)
  | [], u :: us, _, _, _, _, _, _, h => .inl (clash_here wd _ _ _ _ (by simp [leafImg, forkImg]) h)
  | t :: ts, [], _, _, _, _, _, _, h => .inl (clash_here wd _ _ _ _ (by simp [leafImg, forkImg]) h)
  | t :: ts, u :: us, a1, a2, a3, c1, c2, c3, h => by
    by_cases e : forkImg k1 t (upsD wd k1 v1 ts) = forkImg k2 u (upsD wd k2 v2 us)
    · have hd := forkImg_inj key k1 k2 t u _ _ (a1 t (by simp)) (c1 u (by simp)) (a2 t (by simp)) (c2 u (by simp)) (upsD_bd _ _ _ _) (upsD_bd _ _ _ _) (a3 t (by simp)) (c3 u (by simp)) e
      rcases ups_binds wd key k1 v1 k2 v2 ts us (fun x hx => a1 x (by simp [hx])) (fun x hx => a2 x (by simp [hx])) (fun x hx => a3 x (by simp [hx])) (fun x hx => c1 x (by simp [hx])) (fun x hx => c2 x (by simp [hx])) (fun x hx => c3 x (by simp [hx])) hd with h2 | h2
      · left
        simp only [ups]
        rw [e]
        exact clash_next wd _ _ _ h2
      · exact .inr h2
    · exact .inl (clash_here wd _ _ _ _ e h)

/-- Two proofs of one root that show unlike values clash. -/
theorem way_binds (wd root : Int) (key : Key) (p q : Pf) (hp : p.fits key) (hq : q.fits key) (h1 : headD wd p = root) (h2 : headD wd q = root) (hne : shownV key p ≠ shownV key q) : Clashes wd (wayP wd p) (wayP wd q) := by
  have bareV : ∀ x : Pf, x.fits key → x.leaf = false → shownV key x = [] := fun x hx h => by unfold shownV; rw [hx.bare h]; split <;> rfl
  have hd : headD wd p = headD wd q := h1.trans h2.symm
  unfold headD at hd
  unfold wayP
  cases hl : p.leaf with
  | false =>
    cases hm : q.leaf with
    | false => exact absurd ((bareV p hp hl).trans (bareV q hq hm).symm) hne
    | true =>
      rw [hl, hm] at hd
      simp only [Bool.false_eq_true, if_false, if_true] at hd ⊢
      exact clash_here wd _ _ _ _ (by simp) hd
  | true =>
    cases hm : q.leaf with
    | false =>
      rw [hl, hm] at hd
      simp only [Bool.false_eq_true, if_false, if_true] at hd ⊢
      exact clash_here wd _ _ _ _ (by simp) hd
    | true =>
      rw [hl, hm] at hd
      simp only [if_true] at hd ⊢
      by_cases e : ((5 : Int), [str (be (upsD wd p.key p.val p.tu) 8)]) = (5, [str (be (upsD wd q.key q.val q.tu) 8)])
      · simp only [Prod.mk.injEq, List.cons.injEq, and_true, true_and] at e
        have hx := be_inj8 _ _ (upsD_bd _ _ _ _) (upsD_bd _ _ _ _) (str_inj e)
        rcases ups_binds wd key p.key p.val q.key q.val p.tu q.tu hp.pos hp.side hp.bits hq.pos hq.side hq.bits hx with h | ⟨h3, h4⟩
        · rw [hx]
          exact clash_next wd _ _ _ h
        · exact absurd (by unfold shownV; rw [h3, h4]) hne
      · exact clash_here wd _ _ _ _ e hd

/-- The proof of a key in a tree. -/
def proveT (wd : Int) (key : Key) : Tr → List (Int × Int)
  | .leaf _ _ => []
  | .fork p l r => if bitP key p = 0 then ((p : Int), r.dig wd) :: proveT wd key l else ((p : Int), l.dig wd) :: proveT wd key r
def proveO (wd : Int) (key : Key) : Option Tr → Pf
  | none => ⟨false, [], [], []⟩
  | some t => ⟨true, (t.find key).1, (t.find key).2, proveT wd key t⟩

theorem proveT_dig (wd : Int) (key : Key) : ∀ (t : Tr), t.wf → upsD wd (t.find key).1 (t.find key).2 (proveT wd key t) = t.dig wd
  | .leaf k v, _ => rfl
  | .fork p l r, h => by
    obtain ⟨hl, hr, h0, h1, _⟩ := h
    by_cases hb : bitP key p = 0
    · have hf := h0 _ (l.find_mem key)
      have ih := proveT_dig wd key l hl
      simp only [Tr.find, proveT, hb, if_true, upsD, forkImg, digI, Int.toNat_natCast, hf, ih]
      rfl
    · have hf := h1 _ (r.find_mem key)
      have ih := proveT_dig wd key r hr
      simp only [Tr.find, proveT, hb, if_false, upsD, forkImg, digI, Int.toNat_natCast, hf, ih]
      rfl

theorem fork_low (q p : Nat) (l r : Tr) (h : (Tr.fork p l r).wf) (ha : ∀ x ∈ (Tr.fork p l r).items, ∀ y ∈ (Tr.fork p l r).items, agree q x.1 y.1) : q ≤ p := by
  obtain ⟨_, _, h0, h1, _⟩ := h
  obtain ⟨x, hx⟩ := l.any
  obtain ⟨y, hy⟩ := r.any
  by_cases hq : q ≤ p
  · exact hq
  · have := ha x (by simp [Tr.items, hx]) y (by simp [Tr.items, hy]) p (by omega)
    rw [h0 x hx, h1 y hy] at this
    cases this
theorem side_agree (p : Nat) (l r : Tr) (h : (Tr.fork p l r).wf) : (∀ x ∈ l.items, ∀ y ∈ l.items, agree (p + 1) x.1 y.1) ∧ (∀ x ∈ r.items, ∀ y ∈ r.items, agree (p + 1) x.1 y.1) := by
  obtain ⟨_, _, h0, h1, h2⟩ := h
  refine ⟨fun x hx y hy q hq => ?_, fun x hx y hy q hq => ?_⟩
  · by_cases e : q = p
    · subst e; rw [h0 x hx, h0 y hy]
    · exact h2 x (by simp [hx]) y (by simp [hy]) q (by omega)
  · by_cases e : q = p
    · subst e; rw [h1 x hx, h1 y hy]
    · exact h2 x (by simp [hx]) y (by simp [hy]) q (by omega)
theorem proveT_low (wd : Int) (key : Key) : ∀ (t : Tr) (q : Nat), t.wf → (∀ x ∈ t.items, ∀ y ∈ t.items, agree q x.1 y.1) → ∀ z ∈ proveT wd key t, (q : Int) ≤ z.1
  | .leaf k v, _, _, _, z, hz => by simp [proveT] at hz
  | .fork p l r, q, h, ha, z, hz => by
    have hp := fork_low q p l r h ha
    obtain ⟨s1, s2⟩ := side_agree p l r h
    simp only [proveT] at hz
    split at hz
    · rcases List.mem_cons.1 hz with rfl | hz
      · exact Int.ofNat_le.2 hp
      · have := proveT_low wd key l (p + 1) h.1 s1 z hz; omega
    · rcases List.mem_cons.1 hz with rfl | hz
      · exact Int.ofNat_le.2 hp
      · have := proveT_low wd key r (p + 1) h.2.1 s2 z hz; omega
/-- The places of the turns rise. -/
def Rises (l : List (Int × Int)) : Prop := l.Pairwise fun x y => x.1 < y.1
theorem proveT_rises (wd : Int) (key : Key) : ∀ (t : Tr), t.wf → Rises (proveT wd key t)
  | .leaf k v, _ => by simp [proveT, Rises]
  | .fork p l r, h => by
    obtain ⟨s1, s2⟩ := side_agree p l r h
    simp only [proveT]
    split
    · exact List.pairwise_cons.2 ⟨fun z hz => by have := proveT_low wd key l (p + 1) h.1 s1 z hz; simp only; omega, proveT_rises wd key l h.1⟩
    · exact List.pairwise_cons.2 ⟨fun z hz => by have := proveT_low wd key r (p + 1) h.2.1 s2 z hz; simp only; omega, proveT_rises wd key r h.2.1⟩
theorem proveT_each (wd : Int) (key : Key) : ∀ (t : Tr), t.wf → (∀ x ∈ t.items, x.1.length ≤ 32) → ∀ z ∈ proveT wd key t, (0 ≤ z.1 ∧ z.1 < 288) ∧ (0 ≤ z.2 ∧ z.2 ≤ 18446744073709551615) ∧ bitP key z.1.toNat = bitP (t.find key).1 z.1.toNat
  | .leaf k v, _, _, z, hz => by simp [proveT] at hz
  | .fork p l r, h, hk, z, hz => by
    have hp : p < 288 := by
      obtain ⟨y, hy⟩ := r.any
      by_cases hq : p < 288
      · exact hq
      · have := bit_far y.1 p (hk y (by simp [Tr.items, hy])) (by omega)
        rw [h.2.2.2.1 y hy] at this
        cases this
    simp only [proveT] at hz
    split at hz
    · rename_i hb
      rcases List.mem_cons.1 hz with rfl | hz
      · refine ⟨⟨by simp, by simp only; omega⟩, r.dig_bd wd, ?_⟩
        simp only [Int.toNat_natCast, Tr.find, hb, if_true]
        exact (h.2.2.1 _ (l.find_mem key)).symm
      · have := proveT_each wd key l h.1 (fun x hx => hk x (by simp [Tr.items, hx])) z hz
        simp only [Tr.find, hb, if_true]
        exact this
    · rename_i hb
      rcases List.mem_cons.1 hz with rfl | hz
      · refine ⟨⟨by simp, by simp only; omega⟩, l.dig_bd wd, ?_⟩
        simp only [Int.toNat_natCast, Tr.find, hb, if_false]
        rw [h.2.2.2.1 _ (r.find_mem key)]
        rcases bitP_01 key p with h2 | h2
        · exact absurd h2 hb
        · exact h2
      · have := proveT_each wd key r h.2.1 (fun x hx => hk x (by simp [Tr.items, hx])) z hz
        simp only [Tr.find, hb, if_false]
        exact this
theorem rises_len : ∀ (l : List (Int × Int)) (q : Int), Rises l → (∀ z ∈ l, q ≤ z.1 ∧ z.1 < 288) → q ≤ 288 → (l.length : Int) ≤ 288 - q
  | [], q, _, _, h => by simp; omega
  | x :: l, q, hr, hz, h => by
    obtain ⟨h1, h2⟩ := List.pairwise_cons.1 hr
    have hx := hz x (by simp)
    have := rises_len l (x.1 + 1) h2 (fun z hz2 => ⟨by have := h1 z hz2; omega, (hz z (by simp [hz2])).2⟩) (by omega)
    simp only [List.length_cons]
    omega
theorem proveO_fits (wd : Int) (key : Key) (o : Option Tr) (g : Good o) : (proveO wd key o).fits key := by
  cases o with
  | none => exact ⟨by simp [proveO], by simp [proveO], by simp [proveO], fun _ => rfl⟩
  | some t =>
    have hw : t.wf := g.wf
    have he := proveT_each wd key t hw (fun x hx => (g.keys x hx).1)
    exact ⟨fun z hz => (he z hz).1, fun z hz => (he z hz).2.1, fun z hz => (he z hz).2.2, fun h => by cases h⟩
theorem proveO_head (wd : Int) (key : Key) (o : Option Tr) (g : Good o) : headD wd (proveO wd key o) = rootP wd o := by
  cases o with
  | none => rfl
  | some t =>
    have := proveT_dig wd key t g.wf
    simp only [headD, proveO, if_true, this]
    rfl
theorem proveO_shown (wd : Int) (key : Key) (o : Option Tr) : shownV key (proveO wd key o) = getO key o := by
  cases o with
  | none => simp [shownV, proveO, getO]
  | some t => rfl
theorem proveO_len (wd : Int) (key : Key) (o : Option Tr) (g : Good o) : (proveO wd key o).tu.length ≤ 288 := by
  cases o with
  | none => simp [proveO]
  | some t =>
    have he := proveT_each wd key t g.wf (fun x hx => (g.keys x hx).1)
    have := rises_len (proveT wd key t) 0 (proveT_rises wd key t g.wf) (fun z hz => (he z hz).1) (by omega)
    simp only [proveO]
    omega
end Go.Proofs.YtfjkgglflmakhaaDoor
