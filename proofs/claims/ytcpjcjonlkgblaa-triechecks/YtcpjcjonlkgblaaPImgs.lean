/- Lists of images in memory; slices.Reverse of one. -/
import Derived.Test.YtcpjcjonlkgblaaM39
import Derived.RegionTactic
import Derived.BigRegion
import Derived.Deep.RegionHeld3
namespace Go.Proofs.Ytcpjcjonlkgblaa
open Go.RowKit
set_option linter.unusedVariables false
set_option linter.unusedSimpArgs false

/-- An image in memory: its tag, where its parts lie, and these. -/
structure Ent where
  tag : Int
  a : Option Addr
  cap : Nat
  ss : List ByteArray

def Ent.cells (e : Ent) : List Value := [.int .i64 e.tag, .slice e.a e.ss.length e.cap]

def Ent.img (e : Ent) : Int × List ByteArray := (e.tag, e.ss)

def flatE (E : List Ent) : List Value := E.flatMap Ent.cells

theorem flatE_len (E : List Ent) : (flatE E).length = E.length * 2 := by
  induction E with
  | nil => rfl
  | cons e r ih => simp [flatE, Ent.cells] at *; omega

theorem flatE_snoc (E : List Ent) (e : Ent) : flatE (E ++ [e]) = flatE E ++ e.cells := by simp [flatE]

theorem flatE_at (E : List Ent) (k : Nat) (hk : k < E.length) : (flatE E)[k * 2]? = some (.int .i64 E[k].tag) ∧ (flatE E)[k * 2 + 1]? = some (.slice E[k].a E[k].ss.length E[k].cap) := by
  induction E generalizing k with
  | nil => simp at hk
  | cons e r ih =>
    cases k with
    | zero => simp [flatE, Ent.cells]
    | succ k =>
      have h := ih k (by simpa using hk)
      have e1 : (k + 1) * 2 = k * 2 + 1 + 1 := by omega
      rw [e1]
      simpa [flatE, Ent.cells] using h

def okE (w : World) (E : List Ent) : Prop := ∀ e ∈ E, Strs w e.a e.ss ∧ ∃ b off, e.a = some ⟨b, off, none⟩ ∧ b < w.heap.size

theorem okE.below {w w' : World} {E : List Ent} (h : okE w E) (hb : Below w.heap.size w w') : okE w' E := fun e he => by
  obtain ⟨h1, b, off, h2, h3⟩ := h e he
  exact ⟨h1.below hb, b, off, h2, Nat.lt_of_lt_of_le h3 hb.size⟩

/-- The parts lie in other blocks than the images. -/
def Apart (sv : Value) (E : List Ent) : Prop := ∀ e ∈ E, ∀ b off, e.a = some ⟨b, off, none⟩ → sv.ownBlock ≠ some b

theorem okE.grown {w w' : World} {E : List Ent} {sv : Value} (h : okE w E) (hg : w.grownBy w' sv.ownBlock) (ha : Apart sv E) : okE w' E := fun e he => by
  obtain ⟨h1, b', off', h2, h3⟩ := h e he
  refine ⟨⟨h1.1, ?_⟩, b', off', h2, Nat.lt_of_lt_of_le h3 hg.size⟩
  rcases h1.2 with h1 | ⟨b, off, hab, hlt, hc⟩
  · exact .inl h1
  · refine .inr ⟨b, off, hab, Nat.lt_of_lt_of_le hlt hg.size, fun i hi => ?_⟩
    rw [World.cell?_of_block (w := w) (a := ⟨b, off + i, none⟩) (hg.block b hlt (fun e' => ha e he b off hab e'.symm))]
    exact hc i hi

theorem okE.snoc {w : World} {E : List Ent} (h : okE w E) (e : Ent) (he : Strs w e.a e.ss ∧ ∃ b off, e.a = some ⟨b, off, none⟩ ∧ b < w.heap.size) : okE w (E ++ [e]) := fun x hx => by
  rcases List.mem_append.1 hx with h1 | h1
  · exact h x h1
  · simp at h1; subst h1; exact he

theorem Apart.snoc {sv : Value} {E : List Ent} (h : Apart sv E) (e : Ent) (he : ∀ b off, e.a = some ⟨b, off, none⟩ → sv.ownBlock ≠ some b) : Apart sv (E ++ [e]) := fun x hx => by
  rcases List.mem_append.1 hx with h1 | h1
  · exact h x h1
  · simp at h1; subst h1; exact he

/-- Behind an append: the images' block is the one that was, or a new one. -/
theorem Apart.next {w : World} {sv : Value} {E : List Ent} {g n c H : Nat} (h : Apart sv E) (hE : okE w E) (hat : sv.ownBlock = some g ∨ g = H) (hH : w.heap.size = H) : Apart (.slice (some ⟨g, 0, none⟩) n c) E := fun e he b off hab => by
  rcases hat with h1 | h1
  · intro h2
    have h3 : some g = some b := h2
    exact h e he b off hab (h1.trans h3)
  · intro h2
    have h3 : g = b := by simpa [Value.ownBlock] using h2
    obtain ⟨_, b', off', h4, h5⟩ := hE e he
    have h6 : b = b' := by rw [hab] at h4; exact congrArg Addr.block (Option.some.inj h4)
    omega

def noEnt : Ent := ⟨0, none, 0, []⟩

/-- Behind k swaps: who stands where. -/
def turned (E : List Ent) (k m : Nat) : Ent := if m < k ∨ E.length ≤ m + k then E.getD (E.length - 1 - m) noEnt else E.getD m noEnt

def Holds2 (cur : Array Value) (f : Nat → Ent) (n : Nat) : Prop := ∀ m, m < n → cur[m * 2]? = some (.int .i64 (f m).tag) ∧ cur[m * 2 + 1]? = some (.slice (f m).a (f m).ss.length (f m).cap)

theorem turned_zero (E : List Ent) (m : Nat) (h : m < E.length) : turned E 0 m = E[m] := by
  unfold turned; rw [if_neg (by omega)]; simp [List.getD, h]

theorem turned_all (E : List Ent) (k m : Nat) (h : m < E.length) (hk : E.length ≤ 2 * k + 1) : turned E k m = E.reverse[m]'(by simpa using h) := by
  unfold turned
  by_cases h1 : m < k ∨ E.length ≤ m + k
  · rw [if_pos h1]
    simp [List.getD, List.getElem_reverse, show E.length - 1 - m < E.length by omega]
  · rw [if_neg h1]
    have e : E.length - 1 - m = m := by omega
    simp [List.getD, h, List.getElem_reverse, e]

theorem holds_swap (cur : Array Value) (E : List Ent) (k j : Nat) (hj : k + j + 1 = E.length) (hkj : k < j) (hsz : E.length * 2 ≤ cur.size) (h : Holds2 cur (turned E k) E.length) :
    Holds2 ((((cur.setIfInBounds (k * 2) (.int .i64 (turned E k j).tag)).setIfInBounds (k * 2 + 1) (.slice (turned E k j).a (turned E k j).ss.length (turned E k j).cap)).setIfInBounds (j * 2) (.int .i64 (turned E k k).tag)).setIfInBounds (j * 2 + 1) (.slice (turned E k k).a (turned E k k).ss.length (turned E k k).cap)) (turned E (k + 1)) E.length := by
  intro m hm
  have hmm := h m hm
  have e1 : turned E (k + 1) k = turned E k j := by
    unfold turned
    rw [if_pos (by omega), if_neg (by omega), show E.length - 1 - k = j by omega]
  have e2 : turned E (k + 1) j = turned E k k := by
    unfold turned
    rw [if_pos (by omega), if_neg (by omega), show E.length - 1 - j = k by omega]
  simp only [Array.getElem?_setIfInBounds, Array.size_setIfInBounds]
  by_cases hk : m = k
  · subst hk
    rw [e1]
    refine ⟨?_, ?_⟩
    · rw [if_neg (by omega), if_neg (by omega), if_neg (by omega), if_pos rfl, if_pos (by omega)]
    · rw [if_neg (by omega), if_neg (by omega), if_pos rfl, if_pos (by omega)]
  · by_cases hj2 : m = j
    · subst hj2
      rw [e2]
      refine ⟨?_, ?_⟩
      · rw [if_neg (by omega), if_pos rfl, if_pos (by omega)]
      · rw [if_pos rfl, if_pos (by omega)]
    · have e3 : turned E (k + 1) m = turned E k m := by
        unfold turned
        by_cases h1 : m < k ∨ E.length ≤ m + k
        · rw [if_pos h1, if_pos (by omega)]
        · rw [if_neg h1, if_neg (by omega)]
      rw [e3]
      refine ⟨?_, ?_⟩
      · rw [if_neg (by omega), if_neg (by omega), if_neg (by omega), if_neg (by omega)]; exact hmm.1
      · rw [if_neg (by omega), if_neg (by omega), if_neg (by omega), if_neg (by omega)]; exact hmm.2

theorem grown_setCell {w w' : World} {g : Nat} (h : w.grownBy w' (some g)) (o : Nat) (v : Value) : w.grownBy (w'.setCell ⟨g, o, none⟩ v) (some g) where
  os := h.os
  tape := h.tape
  output := h.output
  size := by rw [size_setCell]; exact h.size
  block := fun k hk hne => by rw [Below.heap_setCell _ _ _ _ (fun e => hne (by rw [e]))]; exact h.block k hk hne

theorem grown_drew {w w' : World} {r : Option Nat} (h : w.grownBy w' r) : w.grownBy w'.drew r := ⟨h.os, h.tape, h.output, h.size, h.block⟩

set_option maxRecDepth 100000 in
set_option maxHeartbeats 3200000 in
theorem rev_any (g n cap : Nat) (cur : Array Value) (E : List Ent) (w : World) (hn : E.length = n) (hm : n ≤ 4611686018427387904) (hsz : n * 2 ≤ cur.size) (hB : Blk w g cur 47) (hH : Holds2 cur (fun m => E.getD m noEnt) n) :
    Calls Try.prog 59 #[.slice (some ⟨g, 0, none⟩) n cap] w fun e w' => e = .returned (.tuple #[]) ∧ w.grownBy w' (some g) ∧ ∃ cur', Blk w' g cur' 47 ∧ Holds2 cur' (fun m => E.reverse.getD m noEnt) n := by
  have HN := show Hid (_ = _) from hn
  have hs2 : E.length * 2 ≤ cur.size := by omega
  clear hn
  go_enter Try.func59, Try.ntmps59
  go_wp2
  go_loopw [2, 3] (fun iv jv wv => ∃ (k : Nat) (j : Int) (cu : Array Value), iv = .int .i64 k ∧ jv = .int .i64 j ∧ (k : Int) + j + 1 = n ∧ (k : Int) ≤ j + 2 ∧ n * 2 ≤ cu.size ∧ Blk wv g cu 47 ∧ Hid (Holds2 cu (turned E k) E.length) ∧ w.grownBy wv (some g)) (fun iv jv _ => (intOf jv - intOf iv + 3).toNat)
  case atStart =>
    refine ⟨0, (n : Int) - 1, cur, rfl, rfl, by omega, by omega, hsz, hB, ?_, ⟨rfl, rfl, rfl, Nat.le_refl _, fun _ _ _ => rfl⟩⟩
    intro m hm
    have h1 := hH m (by rw [← HN.out]; exact hm)
    simp only [turned_zero E m hm]
    simpa [List.getD, hm] using h1
  case round =>
    obtain ⟨k, j, cu, rfl, rfl, hkj, hk2, hcu, kB, HH, hgr⟩ := hrel
    by_cases hlt : (k : Int) < j
    · obtain ⟨jn, rfl⟩ := Int.eq_ofNat_of_zero_le (show 0 ≤ j by omega)
      have hk := HH.out k (by rw [HN.out]; omega)
      have hj := HH.out jn (by rw [HN.out]; omega)
      have c0 := kB.cell (k * 2)
      have c1 := kB.cell (k * 2 + 1)
      have d0 := kB.cell (jn * 2)
      have d1 := kB.cell (jn * 2 + 1)
      rw [hk.1] at c0
      rw [hk.2] at c1
      rw [hj.1] at d0
      rw [hj.2] at d1
      have f0 := kB.frozen (k * 2)
      have f1 := kB.frozen (k * 2 + 1)
      have f2 := kB.frozen (jn * 2)
      have f3 := kB.frozen (jn * 2 + 1)
      have hsw : Hid (Holds2 _ (turned E (k + 1)) E.length) := holds_swap cu E k jn (by rw [HN.out]; omega) (by omega) (by rw [HN.out]; exact hcu) HH.out
      have kB2 := (((kB.set (k * 2) (.int .i64 (turned E k jn).tag)).set (k * 2 + 1) (.slice (turned E k jn).a (turned E k jn).ss.length (turned E k jn).cap)).set (jn * 2) (.int .i64 (turned E k k).tag)).set (jn * 2 + 1) (.slice (turned E k k).a (turned E k k).ss.length (turned E k k).cap)
      have hg2 := grown_setCell (grown_setCell (grown_setCell (grown_setCell hgr (k * 2) (.int .i64 (turned E k jn).tag)) (k * 2 + 1) (.slice (turned E k jn).a (turned E k jn).ss.length (turned E k jn).cap)) (jn * 2) (.int .i64 (turned E k k).tag)) (jn * 2 + 1) (.slice (turned E k k).a (turned E k k).ss.length (turned E k k).cap)
      clear hk hj
      generalize turned E k jn = ej at *
      generalize turned E k k = ek at *
      have a1 : (0 : Int) ≤ (k : Int) := by omega
      have a2 : (k : Int) < (n : Int) := by omega
      have a3 : (0 : Int) ≤ (jn : Int) := by omega
      have a4 : (jn : Int) < (n : Int) := by omega
      go_wp2_with fail
      go_region
      go_wp2
      go_roundw
      case rel => exact ⟨k + 1, (jn : Int) - 1, _, by go_num, rfl, by omega, by omega, by simp only [Array.size_setIfInBounds]; exact hcu, kB2, hsw, grown_drew hg2⟩
      case measure => simp [intOf]; omega
    · go_wp2
      go_end0
      refine ⟨rfl, hgr, cu, kB, fun m hm => ?_⟩
      have h1 := HH.out m (by rw [HN.out]; exact hm)
      have hm' : m < E.length := by rw [HN.out]; exact hm
      rw [turned_all E k m hm' (by rw [HN.out]; omega)] at h1
      have e : (E.reverse[m]?).getD noEnt = E.reverse[m]'(by simpa using hm') := by rw [List.getElem?_eq_getElem (by simpa using hm')]; rfl
      simp only [e]
      exact h1

/-- A slice of images that may be read. -/
def Imgs (w : World) (v : Value) (E : List Ent) : Prop :=
  okE w E ∧ ((E = [] ∧ v = .slice none 0 0) ∨ ∃ g cap cur, v = .slice (some ⟨g, 0, none⟩) E.length cap ∧ E.length ≤ cap ∧ cap ≤ maxLen ∧ Blk w g cur 47 ∧ Holds2 cur (fun m => E.getD m noEnt) E.length)

theorem Imgs.below {w w' : World} {v : Value} {E : List Ent} (h : Imgs w v E) (hb : Below w.heap.size w w') : Imgs w' v E := by
  refine ⟨h.1.below hb, ?_⟩
  rcases h.2 with h2 | ⟨g, cap, cur, h2, h3, h4, h5, h6⟩
  · exact .inl h2
  · exact .inr ⟨g, cap, cur, h2, h3, h4, h5.below hb h5.lt, h6⟩

/-- An image as a value, its parts in a new block. -/
def ImgN (B : Nat) (w : World) (tag : Int) (ss : List ByteArray) (v : Value) : Prop :=
  ∃ b cap, v = .agg #[.int .i64 tag, .slice (some ⟨b, 0, none⟩) ss.length cap] ∧ B ≤ b ∧ b < w.heap.size ∧ Strs w (some ⟨b, 0, none⟩) ss

theorem owns_blk {w : World} {base g n cap : Nat} {E : List Ent} (hn : E.length = n) (h : w.ownsRow base 47 2 (.slice (some ⟨g, 0, none⟩) n cap) n (flatE E)) :
    ∃ cur, Blk w g cur 47 ∧ n * 2 ≤ cur.size ∧ n ≤ cap ∧ cap ≤ maxLen ∧ Holds2 cur (fun m => E.getD m noEnt) n := by
  rcases h.2 with ⟨h1, _⟩ | ⟨g', cap', cur, h1, _, hg, h3, h4, h5, h6⟩
  · simp at h1
  · simp only [Value.slice.injEq, Option.some.injEq, Addr.mk.injEq, and_true, true_and] at h1
    obtain ⟨rfl, rfl⟩ := h1
    refine ⟨cur, hg, by omega, h3, h4, fun m hm => ?_⟩
    have h7 := flatE_at E m (by omega)
    have e : (E.getD m noEnt) = E[m]'(by omega) := by simp [List.getD, show m < E.length by omega]
    have e2 : ∀ q, q < n * 2 → cur[q]? = (flatE E)[q]? := fun q hq => by
      rw [← h6, List.getElem?_take, if_pos hq]; simp
    simp only [e]
    rw [e2 _ (by omega), e2 _ (by omega)]
    exact h7

def OffB (H : Nat) (E : List Ent) : Prop := ∀ e ∈ E, ∀ b off, e.a = some ⟨b, off, none⟩ → b ≠ H

theorem OffB.snoc {H : Nat} {E : List Ent} (h : OffB H E) (e : Ent) (he : ∀ b off, e.a = some ⟨b, off, none⟩ → b ≠ H) : OffB H (E ++ [e]) := fun x hx => by
  rcases List.mem_append.1 hx with h1 | h1
  · exact h x h1
  · simp at h1; subst h1; exact he

theorem okE.set {w : World} {E : List Ent} {H : Nat} (h : okE w E) (ho : OffB H E) (o : Nat) (v : Value) : okE (w.setCell ⟨H, o, none⟩ v) E := fun e he => by
  obtain ⟨h1, b', off', h2, h3⟩ := h e he
  refine ⟨⟨h1.1, ?_⟩, b', off', h2, by rw [size_setCell]; exact h3⟩
  rcases h1.2 with h4 | ⟨b, off, hab, hlt, hc⟩
  · exact .inl h4
  · refine .inr ⟨b, off, hab, by rw [size_setCell]; exact hlt, fun i hi => ?_⟩
    rw [World.cell?_of_block (w := w) (a := ⟨b, off + i, none⟩) (Below.heap_setCell _ _ _ _ (ho e he b off hab))]
    exact hc i hi

theorem tagB : ∀ (H : Nat) (b off : Nat), (some (⟨b, off, none⟩ : Addr)) = some ⟨H, 0, none⟩ → b = H := fun H b off h => congrArg Addr.block (Option.some.inj h)

theorem strs_set2 {w : World} {b off : Nat} {ss : List ByteArray} (h : Strs w (some ⟨b, off, none⟩) ss) (H : Nat) (hne : b ≠ H) (v1 v2 : Value) : Strs ((w.setCell ⟨H, 0, none⟩ v1).setCell ⟨H, 1, none⟩ v2) (some ⟨b, off, none⟩) ss := by
  refine ⟨h.1, ?_⟩
  rcases h.2 with h1 | ⟨b', off', hab, hlt, hc⟩
  · exact .inl h1
  · have hb : b' = b := (congrArg Addr.block (Option.some.inj hab)).symm
    refine .inr ⟨b', off', hab, by rw [size_setCell, size_setCell]; exact hlt, fun i hi => ?_⟩
    rw [World.cell?_of_block (w := w) (a := ⟨b', off' + i, none⟩) (by rw [Below.heap_setCell _ _ _ _ (by simp; omega), Below.heap_setCell _ _ _ _ (by simp; omega)])]
    exact hc i hi

theorem owns_set2 {w : World} {base : Nat} {e : TypeId} {size : Nat} {v : Value} {n : Nat} {xs : List Value} (h : w.ownsRow base e size v n xs) (H : Nat) (hne : v.ownBlock ≠ some H) (v1 v2 : Value) : ((w.setCell ⟨H, 0, none⟩ v1).setCell ⟨H, 1, none⟩ v2).ownsRow base e size v n xs := by
  obtain ⟨h1, h2⟩ := h
  refine ⟨h1, ?_⟩
  rcases h2 with h2 | ⟨g, cap, cur, hv, hg, hh, r⟩
  · exact .inl h2
  · subst hv
    have hgn : g ≠ H := fun e => hne (by rw [e]; rfl)
    exact .inr ⟨g, cap, cur, rfl, hg, by rw [Below.heap_setCell _ _ _ _ hgn, Below.heap_setCell _ _ _ _ hgn]; exact hh, r⟩

/-- Two images told, or none. -/
def Told (w : World) (o : Option ((Int × List ByteArray) × (Int × List ByteArray))) (v : Value) : Prop :=
  ∃ (t1 t2 : Int) (s1 s2 : List ByteArray) (a1 a2 : Option Addr) (c1 c2 : Nat), v = .tuple #[.agg #[.int .i64 t1, .slice a1 s1.length c1], .agg #[.int .i64 t2, .slice a2 s2.length c2], .bool o.isSome] ∧
    Strs w a1 s1 ∧ Strs w a2 s2 ∧ s1.length ≤ 2 ∧ s2.length ≤ 2 ∧ o.getD ((0, []), (0, [])) = ((t1, s1), (t2, s2))

theorem told_none (w : World) : Told w none (.tuple #[.agg #[.int .i64 0, .slice none 0 0], .agg #[.int .i64 0, .slice none 0 0], .bool false]) :=
  ⟨0, 0, [], [], none, none, 0, 0, rfl, ⟨by simp, .inl rfl⟩, ⟨by simp, .inl rfl⟩, by simp, by simp, rfl⟩

theorem Imgs.form {w : World} {v : Value} {E : List Ent} (h : Imgs w v E) : ∃ a cap, v = .slice a E.length cap ∧ E.length ≤ maxLen := by
  rcases h.2 with ⟨rfl, rfl⟩ | ⟨g, cap, cur, rfl, h1, h2, _⟩
  · exact ⟨none, 0, rfl, by simp⟩
  · exact ⟨_, cap, rfl, by omega⟩

theorem Imgs.at {w : World} {a : Option Addr} {n cap : Nat} {E : List Ent} (h : Imgs w (.slice a n cap) E) (k : Nat) (hk : k < E.length) :
    ∃ g, a = some ⟨g, 0, none⟩ ∧ g < w.heap.size ∧ w.cell? ⟨g, k * 2, none⟩ = some (.int .i64 E[k].tag) ∧ w.cell? ⟨g, k * 2 + 1, none⟩ = some (.slice E[k].a E[k].ss.length E[k].cap) ∧ Strs w E[k].a E[k].ss := by
  have hS := (h.1 E[k] (List.getElem_mem hk)).1
  rcases h.2 with ⟨rfl, _⟩ | ⟨g, cap', cur, e, h1, h2, hB, hH⟩
  · simp at hk
  · have e' := e
    injection e' with e1 e2 e3
    have q := hH k hk
    simp only [show E.getD k noEnt = E[k] from by simp [List.getD, hk]] at q
    refine ⟨g, e1, hB.lt, ?_, ?_, hS⟩
    · rw [hB.cell]; exact q.1
    · rw [hB.cell]; exact q.2

theorem infoImg : (Try.prog.info? 47).map (fun i => (i.zero, i.size, i.bytes)) = some (some (.agg #[.int .i64 0, .slice none 0 0]), 2, 32) := by kernel_rfl

theorem owns_mono {w : World} {base base' : Nat} {e : TypeId} {size : Nat} {v : Value} {n : Nat} {xs : List Value} (h : w.ownsRow base e size v n xs) (hb : base' ≤ base) : w.ownsRow base' e size v n xs := by
  obtain ⟨h1, h2⟩ := h
  refine ⟨h1, ?_⟩
  rcases h2 with h2 | ⟨g, cap, cur, hv, hg, r⟩
  · exact .inl h2
  · exact .inr ⟨g, cap, cur, hv, Nat.le_trans hb hg, r⟩

theorem owns_below {w w' : World} {base : Nat} {e : TypeId} {size : Nat} {v : Value} {n : Nat} {xs : List Value} (h : w.ownsRow base e size v n xs) (hb : Below w.heap.size w w') : w'.ownsRow base e size v n xs := by
  obtain ⟨h1, h2⟩ := h
  refine ⟨h1, ?_⟩
  rcases h2 with h2 | ⟨g, cap, cur, hv, hg, hh, r⟩
  · exact .inl h2
  · exact .inr ⟨g, cap, cur, hv, hg, by rw [hb.block g (Array.getElem?_eq_some_iff.1 hh).1]; exact hh, r⟩

theorem owns_form {w : World} {base : Nat} {e : TypeId} {size : Nat} {v : Value} {n : Nat} {xs : List Value} (h : w.ownsRow base e size v n xs) : ∃ a c, v = .slice a n c := by
  rcases h.2 with ⟨rfl, rfl⟩ | ⟨g, cap, cur, rfl, _⟩
  · exact ⟨_, _, rfl⟩
  · exact ⟨_, _, rfl⟩

end Go.Proofs.Ytcpjcjonlkgblaa
