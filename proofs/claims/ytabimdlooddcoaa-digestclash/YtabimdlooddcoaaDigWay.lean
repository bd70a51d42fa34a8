/- The program's way up from a leaf (chapter 2, D4), and whether it leads to a root. -/
import Derived.Test.YtabimdlooddcoaaDigRev
import Derived.Deep.RegionHeld3
namespace Go.Proofs.Ytabimdlooddcoaa
open Go.RowKit
set_option linter.unusedVariables false

/-- A slice of images that may be read. -/
def Imgs (w : World) (v : Value) (E : List Ent) : Prop :=
  okE w E ∧ ((E = [] ∧ v = .slice none 0 0) ∨ ∃ g cap cur, v = .slice (some ⟨g, 0, none⟩) E.length cap ∧ E.length ≤ cap ∧ cap ≤ maxLen ∧ Blk w g cur 30 ∧ Holds2 cur (fun m => E.getD m noEnt) E.length)
theorem Imgs.below {w w' : World} {v : Value} {E : List Ent} (h : Imgs w v E) (hb : Below w.heap.size w w') : Imgs w' v E := by
  refine ⟨h.1.below hb, ?_⟩
  rcases h.2 with h2 | ⟨g, cap, cur, h2, h3, h4, h5, h6⟩
  · exact .inl h2
  · exact .inr ⟨g, cap, cur, h2, h3, h4, h5.below hb h5.lt, h6⟩

set_option maxHeartbeats 800000 in
theorem way_range (wd c i : Int) (s : ByteArray) (v : Value) (w : World) (ds : List Int) (hr : Row w v (ds.map (Value.int .u64))) (h : c < 1 ∨ (1 ≤ c ∧ 1099511627775 < c) ∨ (1 ≤ c ∧ c ≤ 1099511627775 ∧ i < 0) ∨ (1 ≤ c ∧ c ≤ 1099511627775 ∧ 0 ≤ i ∧ c ≤ i)) :
    Calls Try.prog 37 #[.int .i64 wd, .string s, .agg #[.int .i64 c, .int .i64 i, v]] w fun e w' => e = .returned (.slice none 0 0) ∧ Below w.heap.size w w' := by
  obtain ⟨a, cp, rfl⟩ := hr.form
  rcases h with h | ⟨h, h2⟩ | ⟨h, h2, h3⟩ | ⟨h, h2, h3, h4⟩
  · go_enter Try.func37, Try.ntmps37
    go_wp2
    go_ret
    exact ⟨rfl, (Below.refl _ _).alloc (Nat.le_refl _) _⟩
  · have g1 : decide (c < 1) = false := by simp; omega
    go_enter Try.func37, Try.ntmps37
    go_wp2
    go_ret
    exact ⟨rfl, (Below.refl _ _).alloc (Nat.le_refl _) _⟩
  · have g1 : decide (c < 1) = false := by simp; omega
    have g2 : decide (1099511627775 < c) = false := by simp; omega
    go_enter Try.func37, Try.ntmps37
    go_wp2
    go_ret
    exact ⟨rfl, (Below.refl _ _).alloc (Nat.le_refl _) _⟩
  · have g1 : decide (c < 1) = false := by simp; omega
    have g2 : decide (1099511627775 < c) = false := by simp; omega
    have g3 : decide (i < 0) = false := by simp; omega
    go_enter Try.func37, Try.ntmps37
    go_wp2
    go_ret
    exact ⟨rfl, (Below.refl _ _).alloc (Nat.le_refl _) _⟩

/-- An image as a value, its parts in a new block. -/
def ImgN (B : Nat) (w : World) (tag : Int) (ss : List ByteArray) (v : Value) : Prop :=
  ∃ b cap, v = .agg #[.int .i64 tag, .slice (some ⟨b, 0, none⟩) ss.length cap] ∧ B ≤ b ∧ b < w.heap.size ∧ Strs w (some ⟨b, 0, none⟩) ss

set_option maxHeartbeats 400000 in
theorem leafI_new (s : ByteArray) (w : World) (hs : s.size ≤ maxLen) :
    Calls Try.prog 44 #[.string s] w fun e w' => ∃ v, e = .returned v ∧ ImgN w.heap.size w' 0 [s] v ∧ Below w.heap.size w w' := by
  go_enter Try.func44, Try.ntmps44
  go_wp2
  have hS := strs_one (w.alloc (.cells #[.int .i64 0, .slice (some ⟨w.heap.size + 1, 0, none⟩) 1 1] 30)) s hs
  rw [World.size_alloc] at hS
  exact bodyPost_ret (v := .agg #[.int .i64 0, .slice (some ⟨w.heap.size + 1, 0, none⟩) 1 1]) (by simp [results, Try.results44, go_sem]) rfl
    ⟨_, rfl, ⟨_, 1, rfl, by omega, by simp, hS⟩, ((Below.refl _ _).alloc (Nat.le_refl _) _).alloc (by simp) _⟩

set_option maxHeartbeats 400000 in
theorem nodeI_new (x y : Int) (w : World) (hx : 0 ≤ x ∧ x ≤ 18446744073709551615) (hy : 0 ≤ y ∧ y ≤ 18446744073709551615) :
    Calls Try.prog 45 #[.int .u64 x, .int .u64 y] w fun e w' => ∃ v, e = .returned v ∧ ImgN w.heap.size w' 1 [str (be x 8), str (be y 8)] v ∧ Below w.heap.size w w' := by
  go_enter Try.func45, Try.ntmps45
  go_wp2_with fail
  refine (weight _ _ hx).mono ?_
  rintro e w1 ⟨rfl, b1⟩
  go_wp2_with fail
  refine (weight _ _ hy).mono ?_
  rintro e w2 ⟨rfl, b2⟩
  have b12 := b1.trans (b2.mono b1.size)
  obtain ⟨kc, kf, kz⟩ := own_kept b12
  have c0 := kc 0
  have c1 := kc 1
  have f0 := kf 0
  have f1 := kf 1
  clear kc kf
  go_wp2
  have hS := strs_two ((w2.setCell ⟨w.heap.size, 0, none⟩ (.int .i64 1)).setCell ⟨w.heap.size, 1, none⟩ (.slice (some ⟨w2.heap.size, 0, none⟩) 2 2)) (str (be x 8)) (str (be y 8)) (be8_size x) (be8_size y)
  rw [size_setCell, size_setCell] at hS
  have hb : Below w.heap.size w w2 := ((Below.refl _ _).alloc (Nat.le_refl _) _).trans (b12.mono (by simp))
  exact bodyPost_ret (v := .agg #[.int .i64 1, .slice (some ⟨w2.heap.size, 0, none⟩) 2 2]) (by simp [results, Try.results45, go_sem, c0, c1, kz]) rfl
    ⟨_, rfl, ⟨_, 2, rfl, Nat.le_of_lt kz, by rw [World.size_alloc, size_setCell, size_setCell]; omega, hS⟩, ((hb.setCell (Nat.le_refl _) _).setCell (Nat.le_refl _) _).alloc (by rw [size_setCell, size_setCell]; exact Nat.le_of_lt kz) _⟩

set_option maxHeartbeats 400000 in
theorem listI_new (x y : Int) (w : World) (hy : 0 ≤ y ∧ y ≤ 18446744073709551615) :
    Calls Try.prog 29 #[.int .i64 x, .int .u64 y] w fun e w' => ∃ v, e = .returned v ∧ ImgN w.heap.size w' 2 [str (be x 5), str (be y 8)] v ∧ Below w.heap.size w w' := by
  go_enter Try.func29, Try.ntmps29
  go_wp2_with fail
  refine (wfive _ _).mono ?_
  rintro e w1 ⟨rfl, b1⟩
  go_wp2_with fail
  refine (weight _ _ hy).mono ?_
  rintro e w2 ⟨rfl, b2⟩
  have b12 := b1.trans (b2.mono b1.size)
  obtain ⟨kc, kf, kz⟩ := own_kept b12
  have c0 := kc 0
  have c1 := kc 1
  have f0 := kf 0
  have f1 := kf 1
  clear kc kf
  go_wp2
  have hS := strs_two ((w2.setCell ⟨w.heap.size, 0, none⟩ (.int .i64 2)).setCell ⟨w.heap.size, 1, none⟩ (.slice (some ⟨w2.heap.size, 0, none⟩) 2 2)) (str (be x 5)) (str (be y 8)) (be5_size x) (be8_size y)
  rw [size_setCell, size_setCell] at hS
  have hb : Below w.heap.size w w2 := ((Below.refl _ _).alloc (Nat.le_refl _) _).trans (b12.mono (by simp))
  exact bodyPost_ret (v := .agg #[.int .i64 2, .slice (some ⟨w2.heap.size, 0, none⟩) 2 2]) (by simp [results, Try.results29, go_sem, c0, c1, kz]) rfl
    ⟨_, rfl, ⟨_, 2, rfl, Nat.le_of_lt kz, by rw [World.size_alloc, size_setCell, size_setCell]; omega, hS⟩, ((hb.setCell (Nat.le_refl _) _).setCell (Nat.le_refl _) _).alloc (by rw [size_setCell, size_setCell]; exact Nat.le_of_lt kz) _⟩

theorem owns_blk {w : World} {base g n cap : Nat} {E : List Ent} (hn : E.length = n) (h : w.ownsRow base 30 2 (.slice (some ⟨g, 0, none⟩) n cap) n (flat E)) :
    ∃ cur, Blk w g cur 30 ∧ n * 2 ≤ cur.size ∧ n ≤ cap ∧ cap ≤ maxLen ∧ Holds2 cur (fun m => E.getD m noEnt) n := by
  rcases h.2 with ⟨h1, _⟩ | ⟨g', cap', cur, h1, _, hg, h3, h4, h5, h6⟩
  · simp at h1
  · simp only [Value.slice.injEq, Option.some.injEq, Addr.mk.injEq, and_true, true_and] at h1
    obtain ⟨rfl, rfl⟩ := h1
    refine ⟨cur, hg, by omega, h3, h4, fun m hm => ?_⟩
    have h7 := flat_at E m (by omega)
    have e : (E.getD m noEnt) = E[m]'(by omega) := by simp [List.getD, show m < E.length by omega]
    have e2 : ∀ q, q < n * 2 → cur[q]? = (flat E)[q]? := fun q hq => by
      rw [← h6, List.getElem?_take, if_pos hq]; simp
    simp only [e]
    rw [e2 _ (by omega), e2 _ (by omega)]
    exact h7

def OffB (H : Nat) (E : List Ent) : Prop := ∀ e ∈ E, ∀ b off, e.a = some ⟨b, off, none⟩ → b ≠ H
theorem OffB.snoc {H : Nat} {E : List Ent} (h : OffB H E) (e : Ent) (he : ∀ b off, e.a = some ⟨b, off, none⟩ → b ≠ H) : OffB H (E ++ [e]) := fun x hx => by
  rcases List.mem_append.1 hx with h1 | h1
  · exact h x h1
  · simp at h1; subst h1; exact he
theorem okE.set {w : World} {E : List Ent} {H : Nat} (h : okE w E) (ho : OffB H E) (o : Nat) (v : Value) : okE (w.setCell ⟨H, o, none⟩ v) E := fun e he => by
  obtain ⟨h1, b', off', h2, h3⟩ := h e he
  refine ⟨⟨h1.1, ?_⟩, b', off', h2, by rw [size_setCell]; exact h3⟩
  rcases h1.2 with h4 | ⟨b, off, hab, hlt, hc⟩
  · exact .inl h4
  · refine .inr ⟨b, off, hab, by rw [size_setCell]; exact hlt, fun i hi => ?_⟩
    rw [World.cell?_of_block (w := w) (a := ⟨b, off + i, none⟩) (Below.heap_setCell _ _ _ _ (ho e he b off hab))]
    exact hc i hi
end Go.Proofs.Ytabimdlooddcoaa
