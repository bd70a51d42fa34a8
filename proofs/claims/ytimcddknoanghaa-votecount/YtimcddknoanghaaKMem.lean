/- Votes in memory. -/
import Derived.Test.YtimcddknoanghaaBIns
namespace Go.Proofs.Ytimcddknoanghaa
open Go.RowKit
set_option linter.unusedVariables false
set_option linter.unusedSimpArgs false

/-- A vote: height, round, stage, has, block, from. -/
structure Vt where
  h : Int
  r : Int
  s : Int
  has : Bool
  bl : Int
  f : Int
deriving DecidableEq
instance : Inhabited Vt := ⟨⟨0, 0, 0, false, 0, 0⟩⟩
def Vt.cells (x : Vt) : List Value := [.int .i64 x.h, .int .i64 x.r, .int .i64 x.s, .bool x.has, .int .u64 x.bl, .int .i64 x.f]
def Vt.val (x : Vt) : Value := .agg #[.int .i64 x.h, .int .i64 x.r, .int .i64 x.s, .bool x.has, .int .u64 x.bl, .int .i64 x.f]
theorem Vt.cells_len (x : Vt) : x.cells.length = 6 := rfl
theorem Vt.cells_one (x : Vt) : ∀ u ∈ x.cells, u.oneCell' = true := by
  intro u hu
  simp [Vt.cells] at hu
  rcases hu with rfl | rfl | rfl | rfl | rfl | rfl <;> rfl

/-- A list of votes in memory. -/
def VotesAt (w : World) (la : Option Addr) (l : List Vt) : Prop :=
  l = [] ∨ ∃ b off, la = some ⟨b, off, none⟩ ∧ b < w.heap.size ∧ ∀ i x, l[i]? = some x → ∀ j u, x.cells[j]? = some u → w.cell? ⟨b, off + i * 6 + j, none⟩ = some u
theorem VotesAt.below {w w' : World} {la : Option Addr} {l : List Vt} (h : VotesAt w la l) (hb : Below w.heap.size w w') : VotesAt w' la l := by
  rcases h with h | ⟨b, off, e, hl, hc⟩
  · exact .inl h
  · exact .inr ⟨b, off, e, Nat.lt_of_lt_of_le hl hb.size, fun i x hx j u hu => by rw [hb.cell (p := ⟨b, off + i * 6 + j, none⟩) hl]; exact hc i x hx j u hu⟩
theorem VotesAt.one {w : World} {la : Option Addr} {l : List Vt} (h : VotesAt w la l) {i : Nat} (hi : i < l.length) : ∃ b off, la = some ⟨b, off, none⟩ ∧ b < w.heap.size ∧ w.cell? ⟨b, off + i * 6, none⟩ = some (.int .i64 l[i].h) ∧ w.cell? ⟨b, off + i * 6 + 1, none⟩ = some (.int .i64 l[i].r) ∧ w.cell? ⟨b, off + i * 6 + 2, none⟩ = some (.int .i64 l[i].s) ∧ w.cell? ⟨b, off + i * 6 + 3, none⟩ = some (.bool l[i].has) ∧ w.cell? ⟨b, off + i * 6 + 4, none⟩ = some (.int .u64 l[i].bl) ∧ w.cell? ⟨b, off + i * 6 + 5, none⟩ = some (.int .i64 l[i].f) := by
  rcases h with h | ⟨b, off, e, hl, hc⟩
  · rw [h] at hi; simp at hi
  · have k := hc i _ (List.getElem?_eq_getElem hi)
    exact ⟨b, off, e, hl, k 0 _ rfl, k 1 _ rfl, k 2 _ rfl, k 3 _ rfl, k 4 _ rfl, k 5 _ rfl⟩

/-- The cells of votes. -/
def flatV (l : List Vt) : List Value := l.flatMap Vt.cells
theorem flatV_len (l : List Vt) : (flatV l).length = l.length * 6 := by
  induction l with
  | nil => rfl
  | cons x r ih => simp only [flatV, List.flatMap_cons, List.length_append, Vt.cells_len, List.length_cons] at ih ⊢; omega
theorem flatV_snoc (l : List Vt) (x : Vt) : flatV (l ++ [x]) = flatV l ++ x.cells := by simp [flatV]
theorem flatV_app (l m : List Vt) : flatV (l ++ m) = flatV l ++ flatV m := by simp [flatV]
theorem flatV_get : ∀ (l : List Vt) (i j : Nat) (x : Vt), l[i]? = some x → j < 6 → (flatV l)[i * 6 + j]? = x.cells[j]?
  | [], i, j, x, h, _ => by simp at h
  | y :: r, 0, j, x, h, hj => by
    simp only [List.getElem?_cons_zero, Option.some.injEq] at h
    subst h
    simp only [flatV, List.flatMap_cons, Nat.zero_mul, Nat.zero_add]
    rw [List.getElem?_append_left (by rw [Vt.cells_len]; exact hj)]
  | y :: r, i + 1, j, x, h, hj => by
    rw [List.getElem?_cons_succ] at h
    have h1 := flatV_get r i j x h hj
    simp only [flatV, List.flatMap_cons] at h1 ⊢
    rw [List.getElem?_append_right (by rw [Vt.cells_len]; omega), Vt.cells_len, show (i + 1) * 6 + j - 6 = i * 6 + j by omega]
    exact h1
theorem flatV_one (l : List Vt) : ∀ u ∈ flatV l, u.oneCell' = true := by
  intro u hu
  simp only [flatV, List.mem_flatMap] at hu
  obtain ⟨x, _, hx⟩ := hu
  exact x.cells_one u hx
theorem infoVote : (Try.prog.info? 34).map (fun i => (i.zero, i.size, i.bytes)) = some (some (.agg #[.int .i64 0, .int .i64 0, .int .i64 0, .bool false, .int .u64 0, .int .i64 0]), 6, 48) := by kernel_rfl
theorem VotesAt.of_owns {w : World} {base : Nat} {sv : Value} {m : List Vt} (h : w.ownsRow base 34 6 sv m.length (flatV m)) : ∃ la cap, sv = .slice la m.length cap ∧ VotesAt w la m := by
  rcases h.2 with ⟨e, h0⟩ | ⟨g, cap, cur, e, _, hg, hc, hcm, hs, ht⟩
  · have : m = [] := List.eq_nil_of_length_eq_zero h0
    subst this
    exact ⟨none, 0, e, .inl rfl⟩
  · refine ⟨_, cap, e, .inr ⟨g, 0, rfl, (Array.getElem?_eq_some_iff.1 hg).1, fun i x hx j u hu => ?_⟩⟩
    have hj6 : j < 6 := (List.getElem?_eq_some_iff.1 hu).1
    have hi : i < m.length := (List.getElem?_eq_some_iff.1 hx).1
    have hj := (flatV_get m i j x hx hj6).trans hu
    rw [← ht] at hj
    rw [List.getElem?_take_of_lt (by omega)] at hj
    simp only [World.cell?, hg, Nat.zero_add]
    simpa using hj
theorem news_votes {w : World} {b off : Nat} {l : List Vt} (hc : ∀ i x, l[i]? = some x → ∀ j u, x.cells[j]? = some u → w.cell? ⟨b, off + i * 6 + j, none⟩ = some u) : ∀ j u, (flatV l)[j]? = some u → w.cell? ((⟨b, off, none⟩ : Addr).add j) = some u := by
  intro j u hj
  have ha : (⟨b, off, none⟩ : Addr).add j = ⟨b, off + j, none⟩ := by unfold Addr.add; split <;> simp_all
  rw [ha]
  have hjl : j < l.length * 6 := by have := (List.getElem?_eq_some_iff.1 hj).1; rw [flatV_len] at this; exact this
  have hi : j / 6 < l.length := by omega
  have hx := List.getElem?_eq_getElem hi
  have e : j = j / 6 * 6 + j % 6 := by omega
  rw [e, flatV_get l (j / 6) (j % 6) _ hx (by omega)] at hj
  rw [e, ← Nat.add_assoc]
  exact hc (j / 6) _ hx (j % 6) u hj
theorem VotesAt.blk {w : World} {b : Nat} {x : Vt} {t : TypeId} (h : Blk w b #[.int .i64 x.h, .int .i64 x.r, .int .i64 x.s, .bool x.has, .int .u64 x.bl, .int .i64 x.f] t) : VotesAt w (some ⟨b, 0, none⟩) [x] := by
  refine .inr ⟨b, 0, rfl, h.lt, fun i y hy j u hu => ?_⟩
  obtain rfl : i = 0 := by have := (List.getElem?_eq_some_iff.1 hy).1; simp at this; omega
  simp at hy
  subst hy
  rw [h.cell]
  simpa [Vt.cells] using hu

theorem app_votes (w : World) (base : Nat) (sv : Value) (done : List Vt) (hown : w.ownsRow base 34 6 sv done.length (flatV done)) (la : Option Addr) (cap : Nat) (l : List Vt) (hT : VotesAt w la l) (hd : done.length ≤ 200000) (hl : l.length ≤ 200000) (hb : base ≤ w.heap.size) (nn : Nat) (hnn : l.length = nn) :
    ∃ v w', (Builtin.append_ #[23, 23] 23 #[sv, .slice la nn cap]).run Try.prog w = .ok v w' ∧ w'.ownsRow base 34 6 v (done ++ l).length (flatV (done ++ l)) ∧ w.grownBy w' sv.ownBlock := by
  subst hnn
  obtain ⟨i0, hi, hz0, hz1, hz2⟩ := info_parts infoVote
  have hfl : flatV (done ++ l) = flatV done ++ flatV l := flatV_app _ _
  by_cases h0 : l = []
  · subst h0
    simp only [List.length_nil, List.append_nil]
    rcases hown.2 with ⟨rfl, hn⟩ | ⟨g, cg, cur, rfl, hg1, hg2, hg3, hg4, hg5, hg6⟩
    · cases la with
      | none => exact ⟨_, w, by simp [Builtin.append_, run_underlying Try.underlying23, sizeOf, typeInfo, hi, Builtin.lenOf, Builtin.firstCells, loadCells, loadCellsFrom], hown, ⟨rfl, rfl, rfl, Nat.le_refl _, fun _ _ _ => rfl⟩⟩
      | some ad =>
        obtain ⟨v, w', hr, h1, h2, _⟩ := run_append_own_at (P := Try.prog) w base 23 23 34 i0 (.agg #[.int .i64 0, .int .i64 0, .int .i64 0, .bool false, .int .u64 0, .int .i64 0]) 6 48 Try.underlying23 hi hz0 hz1 hz2 rfl (by decide) _ _ _ hown ad 0 cap [] (by simp) (by simp) (by simp) (by unfold maxLen; omega) (by omega) hb
        exact ⟨v, w', hr, by simpa using h1, h2⟩
    · cases la with
      | none =>
        refine ⟨.slice (some ⟨g, 0, none⟩) done.length cg, w, ?_, hown, ⟨rfl, rfl, rfl, Nat.le_refl _, fun _ _ _ => rfl⟩⟩
        simp [Builtin.append_, run_underlying Try.underlying23, sizeOf, typeInfo, hi, Builtin.lenOf, Builtin.firstCells, loadCells, loadCellsFrom]
        rw [if_pos hg3]
        simp [storeCells, Result.andThen]
      | some ad =>
        obtain ⟨v, w', hr, h1, h2, _⟩ := run_append_own_at (P := Try.prog) w base 23 23 34 i0 (.agg #[.int .i64 0, .int .i64 0, .int .i64 0, .bool false, .int .u64 0, .int .i64 0]) 6 48 Try.underlying23 hi hz0 hz1 hz2 rfl (by decide) _ _ _ hown ad 0 cap [] (by simp) (by simp) (by simp) (by unfold maxLen; omega) (by omega) hb
        exact ⟨v, w', hr, by simpa using h1, h2⟩
  · rcases hT with e | ⟨b, off, rfl, hlt, hc⟩
    · exact absurd e h0
    · obtain ⟨v, w', hr, h1, h2, _⟩ := run_append_own_at (P := Try.prog) w base 23 23 34 i0 (.agg #[.int .i64 0, .int .i64 0, .int .i64 0, .bool false, .int .u64 0, .int .i64 0]) 6 48 Try.underlying23 hi hz0 hz1 hz2 rfl (by decide) _ _ _ hown ⟨b, off, none⟩ l.length cap (flatV l) (flatV_len l) (news_votes hc) (flatV_one l) (by unfold maxLen; omega) (by omega) hb
      exact ⟨v, w', hr, by rw [hfl, List.length_append]; exact h1, h2⟩

/-- The cells of numbers. -/
def flatI (l : List Int) : List Value := l.map (Value.int .i64)
theorem flatI_len (l : List Int) : (flatI l).length = l.length * 1 := by simp [flatI]
theorem flatI_app (l m : List Int) : flatI (l ++ m) = flatI l ++ flatI m := by simp [flatI]
theorem flatI_one (l : List Int) : ∀ u ∈ flatI l, u.oneCell' = true := by
  intro u hu
  simp only [flatI, List.mem_map] at hu
  obtain ⟨x, _, rfl⟩ := hu
  rfl
theorem news_ints {w : World} {b off : Nat} {l : List Int} (hc : ∀ i x, l[i]? = some x → w.cell? ⟨b, off + i, none⟩ = some (.int .i64 x)) : ∀ j u, (flatI l)[j]? = some u → w.cell? ((⟨b, off, none⟩ : Addr).add j) = some u := by
  intro j u hj
  have ha : (⟨b, off, none⟩ : Addr).add j = ⟨b, off + j, none⟩ := by unfold Addr.add; split <;> simp_all
  rw [ha]
  simp only [flatI, List.getElem?_map, Option.map_eq_some_iff] at hj
  obtain ⟨x, hx, rfl⟩ := hj
  exact hc j x hx
theorem IntsAt.blk {w : World} {b : Nat} {x : Int} {t : TypeId} (h : Blk w b #[.int .i64 x] t) : IntsAt w (some ⟨b, 0, none⟩) [x] := by
  refine .inr ⟨b, 0, rfl, h.lt, fun i y hy => ?_⟩
  obtain rfl : i = 0 := by have := (List.getElem?_eq_some_iff.1 hy).1; simp at this; omega
  simp at hy
  subst hy
  rw [h.cell]
  rfl

theorem app_ints (w : World) (base : Nat) (sv : Value) (done : List Int) (hown : w.ownsRow base 3 1 sv done.length (flatI done)) (la : Option Addr) (cap : Nat) (l : List Int) (hT : IntsAt w la l) (hd : done.length ≤ 200000) (hl : l.length ≤ 200000) (hb : base ≤ w.heap.size) (nn : Nat) (hnn : l.length = nn) :
    ∃ v w', (Builtin.append_ #[24, 24] 24 #[sv, .slice la nn cap]).run Try.prog w = .ok v w' ∧ w'.ownsRow base 3 1 v (done ++ l).length (flatI (done ++ l)) ∧ w.grownBy w' sv.ownBlock := by
  subst hnn
  obtain ⟨i0, hi, hz0, hz1, hz2⟩ := info_parts infoInt
  have hfl : flatI (done ++ l) = flatI done ++ flatI l := flatI_app _ _
  by_cases h0 : l = []
  · subst h0
    simp only [List.length_nil, List.append_nil]
    rcases hown.2 with ⟨rfl, hn⟩ | ⟨g, cg, cur, rfl, hg1, hg2, hg3, hg4, hg5, hg6⟩
    · cases la with
      | none => exact ⟨_, w, by simp [Builtin.append_, run_underlying Try.underlying24, sizeOf, typeInfo, hi, Builtin.lenOf, Builtin.firstCells, loadCells, loadCellsFrom], hown, ⟨rfl, rfl, rfl, Nat.le_refl _, fun _ _ _ => rfl⟩⟩
      | some ad =>
        obtain ⟨v, w', hr, h1, h2, _⟩ := run_append_own_at (P := Try.prog) w base 24 24 3 i0 (.int .i64 0) 1 8 Try.underlying24 hi hz0 hz1 hz2 rfl (by decide) _ _ _ hown ad 0 cap [] (by simp) (by simp) (by simp) (by unfold maxLen; omega) (by omega) hb
        exact ⟨v, w', hr, by simpa using h1, h2⟩
    · cases la with
      | none =>
        refine ⟨.slice (some ⟨g, 0, none⟩) done.length cg, w, ?_, hown, ⟨rfl, rfl, rfl, Nat.le_refl _, fun _ _ _ => rfl⟩⟩
        simp [Builtin.append_, run_underlying Try.underlying24, sizeOf, typeInfo, hi, Builtin.lenOf, Builtin.firstCells, loadCells, loadCellsFrom]
        rw [if_pos hg3]
        simp [storeCells, Result.andThen]
      | some ad =>
        obtain ⟨v, w', hr, h1, h2, _⟩ := run_append_own_at (P := Try.prog) w base 24 24 3 i0 (.int .i64 0) 1 8 Try.underlying24 hi hz0 hz1 hz2 rfl (by decide) _ _ _ hown ad 0 cap [] (by simp) (by simp) (by simp) (by unfold maxLen; omega) (by omega) hb
        exact ⟨v, w', hr, by simpa using h1, h2⟩
  · rcases hT with e | ⟨b, off, rfl, hlt, hc⟩
    · exact absurd e h0
    · obtain ⟨v, w', hr, h1, h2, _⟩ := run_append_own_at (P := Try.prog) w base 24 24 3 i0 (.int .i64 0) 1 8 Try.underlying24 hi hz0 hz1 hz2 rfl (by decide) _ _ _ hown ⟨b, off, none⟩ l.length cap (flatI l) (flatI_len l) (news_ints hc) (flatI_one l) (by unfold maxLen; omega) (by omega) hb
      exact ⟨v, w', hr, by rw [hfl, List.length_append]; exact h1, h2⟩
end Go.Proofs.Ytimcddknoanghaa
