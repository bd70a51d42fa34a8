/- A path that somebody has turned: it is some path. -/
import Derived.Test.YtabimdlooddcoaaDigHoldD
import Derived.Deep.RegionLaw
import Derived.Deep.RegionHeld3
import Derived.Deep.DeepCutAuto
namespace Go.Proofs.Ytabimdlooddcoaa
open Go.RowKit
set_option linter.unusedVariables false

/-- A path as a value. -/
def PathV (w : World) (v : Value) (c i : Int) (ds : List Int) : Prop :=
  ∃ sv, v = .agg #[.int .i64 c, .int .i64 i, sv] ∧ Row w sv (ds.map (Value.int .u64)) ∧ (∀ d ∈ ds, 0 ≤ d ∧ d ≤ 18446744073709551615) ∧ (-9223372036854775808 ≤ c ∧ c ≤ 9223372036854775807) ∧ (-9223372036854775808 ≤ i ∧ i ≤ 9223372036854775807)

theorem cell_off {w : World} (a p : Addr) (v : Value) (h : a.block ≠ p.block) : (w.setCell a v).cell? p = w.cell? p := World.cell?_setCell_other _ a p _ (fun e => h (by rw [e]))

theorem owns_set3 {w : World} {base : Nat} {e : TypeId} {size : Nat} {v : Value} {n : Nat} {xs : List Value} (h : w.ownsRow base e size v n xs) (H : Nat) (hne : v.ownBlock ≠ some H) (v1 v2 v3 : Value) : (((w.setCell ⟨H, 0, none⟩ v1).setCell ⟨H, 1, none⟩ v2).setCell ⟨H, 2, none⟩ v3).ownsRow base e size v n xs := by
  obtain ⟨h1, h2⟩ := h
  refine ⟨h1, ?_⟩
  rcases h2 with h2 | ⟨g, cap, cur, hv, hg, hh, r⟩
  · exact .inl h2
  · subst hv
    have hgn : g ≠ H := fun e => hne (by rw [e]; rfl)
    exact .inr ⟨g, cap, cur, rfl, hg, by rw [Below.heap_setCell _ _ _ _ hgn, Below.heap_setCell _ _ _ _ hgn, Below.heap_setCell _ _ _ _ hgn]; exact hh, r⟩

theorem Row.set {w : World} {a : Option Addr} {n cap : Nat} {vs : List Value} (h : Row w (.slice a n cap) vs) (H o : Nat) (hne : (Value.slice a n cap).ownBlock ≠ some H) (v : Value) : Row (w.setCell ⟨H, o, none⟩ v) (.slice a n cap) vs := by
  obtain ⟨a', cap', e, h1, h2, h3⟩ := h
  refine ⟨a', cap', e, h1, h2, ?_⟩
  rcases h3 with h3 | ⟨b, off, rfl, hlt, hc⟩
  · exact .inl h3
  · have hb : b ≠ H := fun eb => hne (by rw [e, eb]; rfl)
    exact .inr ⟨b, off, rfl, by rw [size_setCell]; exact hlt, fun i hi => by rw [cell_off _ _ _ (fun x => hb x.symm)]; exact hc i hi⟩

theorem row_drew {w : World} {v : Value} {vs : List Value} (h : Row w v vs) : Row w.drew v vs := h.below (Below.refl _ _).drew

/-- Where the copy stands: the path q in a block of its own, its sides in another. -/
def AtQ (w : World) (c i : Int) (ds : List Int) (q : Value) (wx : World) : Prop :=
  ∃ BQ sa sc, q = .pointer (some ⟨BQ, 0, none⟩) ∧ w.heap.size + 2 ≤ BQ ∧ (Value.slice sa ds.length sc).ownBlock ≠ some BQ ∧ Blk wx BQ #[.int .i64 c, .int .i64 i, .slice sa ds.length sc] 34 ∧
    wx.ownsRow (w.heap.size + 2) 25 1 (.slice sa ds.length sc) ds.length (ds.map (Value.int .u64)) ∧ Blk wx (w.heap.size + 1) #[.int .i64 0, .int .i64 0, .slice none 0 0] 34 ∧ Below w.heap.size w wx

theorem atQ_one (w : World) (c i : Int) (bx : Obj) : AtQ w c i [] (.pointer (some ⟨w.heap.size + 1 + 1 + 1, 0, none⟩)) ((((w.alloc bx).alloc (.cells #[.int .i64 0, .int .i64 0, .slice none 0 0] 34)).alloc (.cells #[] 25)).alloc (.cells #[.int .i64 c, .int .i64 i, .slice (some ⟨w.heap.size + 1 + 1, 0, none⟩) 0 0] 34)).drew := by
  have kQ : Blk ((((w.alloc bx).alloc (.cells #[.int .i64 0, .int .i64 0, .slice none 0 0] 34)).alloc (.cells #[] 25)).alloc (.cells #[.int .i64 c, .int .i64 i, .slice (some ⟨w.heap.size + 1 + 1, 0, none⟩) 0 0] 34)) (w.heap.size + 1 + 1 + 1) #[.int .i64 c, .int .i64 i, .slice (some ⟨w.heap.size + 1 + 1, 0, none⟩) 0 0] 34 := by
    have h := Blk.new (((w.alloc bx).alloc (.cells #[.int .i64 0, .int .i64 0, .slice none 0 0] 34)).alloc (.cells #[] 25)) #[.int .i64 c, .int .i64 i, .slice (some ⟨w.heap.size + 1 + 1, 0, none⟩) 0 0] 34
    simp only [World.size_alloc] at h; exact h
  have own : ((((w.alloc bx).alloc (.cells #[.int .i64 0, .int .i64 0, .slice none 0 0] 34)).alloc (.cells #[] 25)).alloc (.cells #[.int .i64 c, .int .i64 i, .slice (some ⟨w.heap.size + 1 + 1, 0, none⟩) 0 0] 34)).ownsRow (w.heap.size + 2) 25 1 (.slice (some ⟨w.heap.size + 1 + 1, 0, none⟩) 0 0) 0 [] := by
    have h := World.ownsRow_lit (base := w.heap.size + 2) (e := 25) (size := 1) ((w.alloc bx).alloc (.cells #[.int .i64 0, .int .i64 0, .slice none 0 0] 34)) #[] 0 (by simp) (by unfold maxLen; omega) rfl
    simp only [World.size_alloc] at h
    exact h.alloc _
  have kR : Blk ((((w.alloc bx).alloc (.cells #[.int .i64 0, .int .i64 0, .slice none 0 0] 34)).alloc (.cells #[] 25)).alloc (.cells #[.int .i64 c, .int .i64 i, .slice (some ⟨w.heap.size + 1 + 1, 0, none⟩) 0 0] 34)) (w.heap.size + 1) #[.int .i64 0, .int .i64 0, .slice none 0 0] 34 := by
    have h := ((Blk.new (w.alloc bx) #[.int .i64 0, .int .i64 0, .slice none 0 0] 34).alloc (.cells #[] 25)).alloc (.cells #[.int .i64 c, .int .i64 i, .slice (some ⟨w.heap.size + 1 + 1, 0, none⟩) 0 0] 34)
    simp only [World.size_alloc] at h; exact h
  exact ⟨_, _, _, rfl, by omega, fun e => by have h : w.heap.size + 1 + 1 = w.heap.size + 1 + 1 + 1 := Option.some.inj e; omega, kQ.drew, own.drew, kR.drew, (((((Below.refl _ _).alloc (Nat.le_refl _) _).alloc (by simp) _).alloc (by simp; omega) _).alloc (by simp; omega) _).drew⟩
theorem atQ_two (w : World) (c i : Int) (bx : Obj) : AtQ w c i [] (.pointer (some ⟨w.heap.size + 1 + 1, 0, none⟩)) ((((w.alloc bx).alloc (.cells #[.int .i64 0, .int .i64 0, .slice none 0 0] 34)).alloc (.cells #[.int .i64 c, .int .i64 i, .slice (some ⟨w.heap.size + 1 + 1 + 1, 0, none⟩) 0 0] 34)).alloc (.cells #[] 25)).drew := by
  have kQ : Blk ((((w.alloc bx).alloc (.cells #[.int .i64 0, .int .i64 0, .slice none 0 0] 34)).alloc (.cells #[.int .i64 c, .int .i64 i, .slice (some ⟨w.heap.size + 1 + 1 + 1, 0, none⟩) 0 0] 34)).alloc (.cells #[] 25)) (w.heap.size + 1 + 1) #[.int .i64 c, .int .i64 i, .slice (some ⟨w.heap.size + 1 + 1 + 1, 0, none⟩) 0 0] 34 := by
    have h := (Blk.new ((w.alloc bx).alloc (.cells #[.int .i64 0, .int .i64 0, .slice none 0 0] 34)) #[.int .i64 c, .int .i64 i, .slice (some ⟨w.heap.size + 1 + 1 + 1, 0, none⟩) 0 0] 34).alloc (.cells #[] 25)
    simp only [World.size_alloc] at h; exact h
  have own : ((((w.alloc bx).alloc (.cells #[.int .i64 0, .int .i64 0, .slice none 0 0] 34)).alloc (.cells #[.int .i64 c, .int .i64 i, .slice (some ⟨w.heap.size + 1 + 1 + 1, 0, none⟩) 0 0] 34)).alloc (.cells #[] 25)).ownsRow (w.heap.size + 2) 25 1 (.slice (some ⟨w.heap.size + 1 + 1 + 1, 0, none⟩) 0 0) 0 [] := by
    have h := World.ownsRow_lit (base := w.heap.size + 2) (e := 25) (size := 1) (((w.alloc bx).alloc (.cells #[.int .i64 0, .int .i64 0, .slice none 0 0] 34)).alloc (.cells #[.int .i64 c, .int .i64 i, .slice (some ⟨w.heap.size + 1 + 1 + 1, 0, none⟩) 0 0] 34)) #[] 0 (by simp) (by unfold maxLen; omega) rfl
    simp only [World.size_alloc] at h
    exact h
  have kR : Blk ((((w.alloc bx).alloc (.cells #[.int .i64 0, .int .i64 0, .slice none 0 0] 34)).alloc (.cells #[.int .i64 c, .int .i64 i, .slice (some ⟨w.heap.size + 1 + 1 + 1, 0, none⟩) 0 0] 34)).alloc (.cells #[] 25)) (w.heap.size + 1) #[.int .i64 0, .int .i64 0, .slice none 0 0] 34 := by
    have h := ((Blk.new (w.alloc bx) #[.int .i64 0, .int .i64 0, .slice none 0 0] 34).alloc (.cells #[.int .i64 c, .int .i64 i, .slice (some ⟨w.heap.size + 1 + 1 + 1, 0, none⟩) 0 0] 34)).alloc (.cells #[] 25)
    simp only [World.size_alloc] at h; exact h
  exact ⟨_, _, _, rfl, by omega, fun e => by have h : w.heap.size + 1 + 1 + 1 = w.heap.size + 1 + 1 := Option.some.inj e; omega, kQ.drew, own.drew, kR.drew, (((((Below.refl _ _).alloc (Nat.le_refl _) _).alloc (by simp) _).alloc (by simp; omega) _).alloc (by simp; omega) _).drew⟩

set_option maxHeartbeats 3200000 in
theorem spoil_any (c i how d : Int) (sv : Value) (ds : List Int) (w : World) (hr : Row w sv (ds.map (Value.int .u64))) (hd : ∀ d ∈ ds, 0 ≤ d ∧ d ≤ 18446744073709551615) (hl : ds.length ≤ 1099511627776)
    (hc : 0 ≤ c ∧ c ≤ 1099511627776) (hi : 0 ≤ i ∧ i ≤ 1099511627776) (hh : -9223372036854775808 ≤ how ∧ how ≤ 9223372036854775807) (hdd : -9223372036854775808 ≤ d ∧ d ≤ 9223372036854775807) :
    Calls Try.prog 16 #[.agg #[.int .i64 c, .int .i64 i, sv], .int .i64 how, .int .i64 d] w fun e w' => ∃ v, e = .returned v ∧ (∃ c' i' ds', PathV w' v c' i' ds') ∧ Below w.heap.size w w' := by
  obtain ⟨va, vc, hv⟩ := hr.form
  rw [List.length_map] at hv
  subst hv
  obtain ⟨ii, hii, hi0, hi1, hi2⟩ := info_parts infoDig
  go_enter Try.func16, Try.ntmps16
  go_wp2_with fail
  go_cut [7] (fun q wx => AtQ w c i ds q wx)
  case first =>
    by_cases hz : ds = []
    · subst hz
      cases va
      all_goals
        go_region
        · go_wp2
          go_meet
          case rel => exact atQ_one w c i _
        · go_wp2
          go_meet
          case rel => exact atQ_two w c i _
    · have hpos : 0 < ds.length := List.length_pos_iff.2 hz
      obtain ⟨b, off, rfl, hbl, hcell⟩ : ∃ b off, va = some ⟨b, off, none⟩ ∧ b < w.heap.size ∧ ∀ k (h : k < ds.length), w.cell? ⟨b, off + k, none⟩ = some (.int .u64 ds[k]) := by
        obtain ⟨a', cap', e, h1, h2, h3⟩ := hr
        simp at e
        obtain ⟨rfl, _⟩ := e
        rcases h3 with h3 | ⟨b, off, rfl, hlt, hc⟩
        · simp at h3; exact absurd h3 hz
        · exact ⟨b, off, rfl, hlt, fun k hk => by have := hc k (by simpa using hk); simpa using this⟩
      have hnews : ∀ W', Below w.heap.size w W' → ∀ j u, (ds.map (Value.int .u64))[j]? = some u → W'.cell? ((⟨b, off, none⟩ : Addr).add j) = some u := fun W' hW j u hj => by
        have hj' : j < ds.length := by
          have := (List.getElem?_eq_some_iff.1 hj).1
          simpa using this
        rw [show (⟨b, off, none⟩ : Addr).add j = ⟨b, off + j, none⟩ by unfold Addr.add; split <;> simp_all]
        rw [hW.cell (p := ⟨b, off + j, none⟩) hbl, hcell j hj']
        simpa [hj'] using hj
      have hone : ∀ u ∈ ds.map (Value.int .u64), u.oneCell' = true := fun u hu => by
        obtain ⟨x, _, rfl⟩ := List.mem_map.1 hu
        rfl
      have own1 : ((((w.alloc (.cells #[.int .i64 c, .int .i64 i, .slice (some ⟨b, off, none⟩) ds.length vc] 34)).alloc (.cells #[.int .i64 0, .int .i64 0, .slice none 0 0] 34)).alloc (.cells #[.int .i64 0, .int .i64 0, .slice none 0 0] 34)).alloc (.cells #[] 25)).ownsRow (w.heap.size + 2) 25 1 (.slice (some ⟨w.heap.size + 1 + 1 + 1, 0, none⟩) 0 0) 0 [] := by
        have h := World.ownsRow_lit (base := w.heap.size + 2) (e := 25) (size := 1) (((w.alloc (.cells #[.int .i64 c, .int .i64 i, .slice (some ⟨b, off, none⟩) ds.length vc] 34)).alloc (.cells #[.int .i64 0, .int .i64 0, .slice none 0 0] 34)).alloc (.cells #[.int .i64 0, .int .i64 0, .slice none 0 0] 34)) #[] 0 (by simp) (by unfold maxLen; omega) rfl
        simp only [World.size_alloc] at h
        exact h
      have own3 : (((w.alloc (.cells #[.int .i64 c, .int .i64 i, .slice (some ⟨b, off, none⟩) ds.length vc] 34)).alloc (.cells #[.int .i64 0, .int .i64 0, .slice none 0 0] 34)).alloc (.cells #[] 25)).ownsRow (w.heap.size + 2) 25 1 (.slice (some ⟨w.heap.size + 1 + 1, 0, none⟩) 0 0) 0 [] := by
        have h := World.ownsRow_lit (base := w.heap.size + 2) (e := 25) (size := 1) ((w.alloc (.cells #[.int .i64 c, .int .i64 i, .slice (some ⟨b, off, none⟩) ds.length vc] 34)).alloc (.cells #[.int .i64 0, .int .i64 0, .slice none 0 0] 34)) #[] 0 (by simp) (by unfold maxLen; omega) rfl
        simp only [World.size_alloc] at h
        exact h
      have own2 := own3.alloc (.cells #[.int .i64 0, .int .i64 0, .slice none 0 0] 34)
      have bl0 : Below w.heap.size w ((w.alloc (.cells #[.int .i64 c, .int .i64 i, .slice (some ⟨b, off, none⟩) ds.length vc] 34)).alloc (.cells #[.int .i64 0, .int .i64 0, .slice none 0 0] 34)) := ((Below.refl _ _).alloc (Nat.le_refl _) _).alloc (by simp) _
      have bl1 : Below w.heap.size w ((((w.alloc (.cells #[.int .i64 c, .int .i64 i, .slice (some ⟨b, off, none⟩) ds.length vc] 34)).alloc (.cells #[.int .i64 0, .int .i64 0, .slice none 0 0] 34)).alloc (.cells #[.int .i64 0, .int .i64 0, .slice none 0 0] 34)).alloc (.cells #[] 25)) := (bl0.alloc (by simp only [World.size_alloc]; omega) _).alloc (by simp only [World.size_alloc]; omega) _
      have bl3 : Below w.heap.size w (((w.alloc (.cells #[.int .i64 c, .int .i64 i, .slice (some ⟨b, off, none⟩) ds.length vc] 34)).alloc (.cells #[.int .i64 0, .int .i64 0, .slice none 0 0] 34)).alloc (.cells #[] 25)) := bl0.alloc (by simp only [World.size_alloc]; omega) _
      have bl2 : Below w.heap.size w ((((w.alloc (.cells #[.int .i64 c, .int .i64 i, .slice (some ⟨b, off, none⟩) ds.length vc] 34)).alloc (.cells #[.int .i64 0, .int .i64 0, .slice none 0 0] 34)).alloc (.cells #[] 25)).alloc (.cells #[.int .i64 0, .int .i64 0, .slice none 0 0] 34)) := bl3.alloc (by simp only [World.size_alloc]; omega) _
      have kx0 : Blk ((w.alloc (.cells #[.int .i64 c, .int .i64 i, .slice (some ⟨b, off, none⟩) ds.length vc] 34)).alloc (.cells #[.int .i64 0, .int .i64 0, .slice none 0 0] 34)) w.heap.size #[.int .i64 c, .int .i64 i, .slice (some ⟨b, off, none⟩) ds.length vc] 34 := (Blk.new w _ _).alloc _
      have kr0 : Blk ((w.alloc (.cells #[.int .i64 c, .int .i64 i, .slice (some ⟨b, off, none⟩) ds.length vc] 34)).alloc (.cells #[.int .i64 0, .int .i64 0, .slice none 0 0] 34)) (w.heap.size + 1) #[.int .i64 0, .int .i64 0, .slice none 0 0] 34 := by
        have h := Blk.new (w.alloc (.cells #[.int .i64 c, .int .i64 i, .slice (some ⟨b, off, none⟩) ds.length vc] 34)) #[.int .i64 0, .int .i64 0, .slice none 0 0] 34
        rw [World.size_alloc] at h; exact h
      have kx1 := (kx0.alloc (.cells #[.int .i64 0, .int .i64 0, .slice none 0 0] 34)).alloc (.cells #[] 25)
      have kx3 := kx0.alloc (.cells #[] 25)
      have kx2 := kx3.alloc (.cells #[.int .i64 0, .int .i64 0, .slice none 0 0] 34)
      have kr1 := (kr0.alloc (.cells #[.int .i64 0, .int .i64 0, .slice none 0 0] 34)).alloc (.cells #[] 25)
      have kr3 := kr0.alloc (.cells #[] 25)
      have kr2 := kr3.alloc (.cells #[.int .i64 0, .int .i64 0, .slice none 0 0] 34)
      have kq1 : Blk ((((w.alloc (.cells #[.int .i64 c, .int .i64 i, .slice (some ⟨b, off, none⟩) ds.length vc] 34)).alloc (.cells #[.int .i64 0, .int .i64 0, .slice none 0 0] 34)).alloc (.cells #[.int .i64 0, .int .i64 0, .slice none 0 0] 34)).alloc (.cells #[] 25)) (w.heap.size + 1 + 1) #[.int .i64 0, .int .i64 0, .slice none 0 0] 34 := by
        have h := (Blk.new ((w.alloc (.cells #[.int .i64 c, .int .i64 i, .slice (some ⟨b, off, none⟩) ds.length vc] 34)).alloc (.cells #[.int .i64 0, .int .i64 0, .slice none 0 0] 34)) #[.int .i64 0, .int .i64 0, .slice none 0 0] 34).alloc (.cells #[] 25)
        simp only [World.size_alloc] at h; exact h
      have kq2 : Blk ((((w.alloc (.cells #[.int .i64 c, .int .i64 i, .slice (some ⟨b, off, none⟩) ds.length vc] 34)).alloc (.cells #[.int .i64 0, .int .i64 0, .slice none 0 0] 34)).alloc (.cells #[] 25)).alloc (.cells #[.int .i64 0, .int .i64 0, .slice none 0 0] 34)) (w.heap.size + 1 + 1 + 1) #[.int .i64 0, .int .i64 0, .slice none 0 0] 34 := by
        have h := Blk.new (((w.alloc (.cells #[.int .i64 c, .int .i64 i, .slice (some ⟨b, off, none⟩) ds.length vc] 34)).alloc (.cells #[.int .i64 0, .int .i64 0, .slice none 0 0] 34)).alloc (.cells #[] 25)) #[.int .i64 0, .int .i64 0, .slice none 0 0] 34
        simp only [World.size_alloc] at h; exact h
      have nw1 := hnews _ bl1.drew
      have nw2 := hnews _ bl2.drew
      have nw3 := hnews _ bl3.drew
      have hL2 : (0 + ds.length) * 8 ≤ 140737488355328 := by omega
      have hL1 : 0 + ds.length ≤ maxLen := by unfold maxLen; omega
      have hml : (ds.map (Value.int .u64)).length = ds.length * 1 := by simp
      go_region_held3 (fun w' => w'.cell? ⟨w.heap.size, 0, none⟩ = some (.int .i64 c) ∧ w'.cell? ⟨w.heap.size, 1, none⟩ = some (.int .i64 i) ∧ w'.cell? ⟨w.heap.size, 2, none⟩ = some (.slice (some ⟨b, off, none⟩) ds.length vc)) (first | go_keep | (refine ⟨?_, ?_, ?_⟩ <;> (rw [cell_off _ _ _ (by simp only []; omega), cell_off _ _ _ (by simp only []; omega), cell_off _ _ _ (by simp only []; omega)]; assumption)))
          (first
          | (refine step_append_lies _ (by rfl) _ _ _ (by rfl) (w.heap.size + 2) 25 ii (.int .u64 0) 1 8 Try.underlying32 hii hi0 hi1 hi2 rfl (by omega) (.slice (some ⟨w.heap.size + 1 + 1 + 1, 0, none⟩) 0 0) 0 [] (by rfl) own1.drew ⟨b, off, none⟩ ds.length vc (ds.map (Value.int .u64)) (by rfl) hml nw1 hone hpos hL1 hL2 (by simp) (w.heap.size + 1 + 1 + 1 + 1) (by simp) ?_
             intro g cg w3 hown3 hgrow hat hlt
             have kx := kx1.drew.grown hgrow (fun e => by have h : w.heap.size + 1 + 1 + 1 = w.heap.size := Option.some.inj e; omega)
             have kr := kr1.drew.grown hgrow (fun e => by have h : w.heap.size + 1 + 1 + 1 = w.heap.size + 1 := Option.some.inj e; omega)
             have lx := kx.lt
             have s0 := kx.cell 0
             have s1 := kx.cell 1
             have s2 := kx.cell 2
             have b3 := bl1.drew.grown hgrow bl1.size (fun k e => by have h : w.heap.size + 1 + 1 + 1 = k := Option.some.inj e; omega)
             simp only [List.getElem?_toArray, List.getElem?_cons_succ, List.getElem?_cons_zero] at s0 s1 s2
             have kq := kq1.drew.grown hgrow (fun e => by have h : w.heap.size + 1 + 1 + 1 = w.heap.size + 1 + 1 := Option.some.inj e; omega)
             have t0 := kq.cell 0
             have t1 := kq.cell 1
             have t2 := kq.cell 2
             have u0 := kq.frozen 0
             have u1 := kq.frozen 1
             have u2 := kq.frozen 2
             simp only [List.getElem?_toArray, List.getElem?_cons_succ, List.getElem?_cons_zero] at t0 t1 t2)
          | (refine step_append_lies _ (by rfl) _ _ _ (by rfl) (w.heap.size + 2) 25 ii (.int .u64 0) 1 8 Try.underlying32 hii hi0 hi1 hi2 rfl (by omega) (.slice (some ⟨w.heap.size + 1 + 1, 0, none⟩) 0 0) 0 [] (by rfl) own2.drew ⟨b, off, none⟩ ds.length vc (ds.map (Value.int .u64)) (by rfl) hml nw2 hone hpos hL1 hL2 (by simp) (w.heap.size + 1 + 1 + 1 + 1) (by simp) ?_
             intro g cg w3 hown3 hgrow hat hlt
             have kx := kx2.drew.grown hgrow (fun e => by have h : w.heap.size + 1 + 1 = w.heap.size := Option.some.inj e; omega)
             have kr := kr2.drew.grown hgrow (fun e => by have h : w.heap.size + 1 + 1 = w.heap.size + 1 := Option.some.inj e; omega)
             have lx := kx.lt
             have s0 := kx.cell 0
             have s1 := kx.cell 1
             have s2 := kx.cell 2
             have b3 := bl2.drew.grown hgrow bl2.size (fun k e => by have h : w.heap.size + 1 + 1 = k := Option.some.inj e; omega)
             simp only [List.getElem?_toArray, List.getElem?_cons_succ, List.getElem?_cons_zero] at s0 s1 s2
             have kq := kq2.drew.grown hgrow (fun e => by have h : w.heap.size + 1 + 1 = w.heap.size + 1 + 1 + 1 := Option.some.inj e; omega)
             have t0 := kq.cell 0
             have t1 := kq.cell 1
             have t2 := kq.cell 2
             have u0 := kq.frozen 0
             have u1 := kq.frozen 1
             have u2 := kq.frozen 2
             simp only [List.getElem?_toArray, List.getElem?_cons_succ, List.getElem?_cons_zero] at t0 t1 t2)
          | (refine step_append_lies _ (by rfl) _ _ _ (by rfl) (w.heap.size + 2) 25 ii (.int .u64 0) 1 8 Try.underlying32 hii hi0 hi1 hi2 rfl (by omega) (.slice (some ⟨w.heap.size + 1 + 1, 0, none⟩) 0 0) 0 [] (by rfl) own3.drew ⟨b, off, none⟩ ds.length vc (ds.map (Value.int .u64)) (by rfl) hml nw3 hone hpos hL1 hL2 (by simp) (w.heap.size + 1 + 1 + 1) (by simp) ?_
             intro g cg w3 hown3 hgrow hat hlt
             have kx := kx3.drew.grown hgrow (fun e => by have h : w.heap.size + 1 + 1 = w.heap.size := Option.some.inj e; omega)
             have kr := kr3.drew.grown hgrow (fun e => by have h : w.heap.size + 1 + 1 = w.heap.size + 1 := Option.some.inj e; omega)
             have lx := kx.lt
             have s0 := kx.cell 0
             have s1 := kx.cell 1
             have s2 := kx.cell 2
             have b3 := bl3.drew.grown hgrow bl3.size (fun k e => by have h : w.heap.size + 1 + 1 = k := Option.some.inj e; omega)
             simp only [List.getElem?_toArray, List.getElem?_cons_succ, List.getElem?_cons_zero] at s0 s1 s2))
      · have hown4 : (w3.alloc (.cells #[.int .i64 c, .int .i64 i, .slice (some ⟨g, 0, none⟩) ds.length cg] 34)).ownsRow (w.heap.size + 2) 25 1 (.slice (some ⟨g, 0, none⟩) ds.length cg) ds.length (ds.map (Value.int .u64)) := by
          rw [Nat.zero_add, List.nil_append] at hown3
          exact hown3.alloc _
        have hsz := kr.lt
        go_wp2
        go_meet
        case rel => exact ⟨w3.heap.size, some ⟨g, 0, none⟩, cg, rfl, by omega, fun e => by have h : g = w3.heap.size := Option.some.inj e; omega, Blk.new _ _ _, hown4, kr.alloc _, b3.alloc (by omega) _⟩
      · have hown4 := owns_set3 hown3 (w.heap.size + 1 + 1 + 1) (fun e => by have h : g = w.heap.size + 1 + 1 + 1 := Option.some.inj e; rcases hat with h1 | h1; (have h2 : w.heap.size + 1 + 1 = g := Option.some.inj h1; omega); omega) (.int .i64 c) (.int .i64 i) (.slice (some ⟨g, 0, none⟩) ds.length cg)
        rw [Nat.zero_add, List.nil_append] at hown4
        have kq4 := ((kq.set 0 (.int .i64 c)).set 1 (.int .i64 i)).set 2 (.slice (some ⟨g, 0, none⟩) ds.length cg)
        have kr4 := ((kr.setOther ⟨w.heap.size + 1 + 1 + 1, 0, none⟩ (by simp only []; omega) (.int .i64 c)).setOther ⟨w.heap.size + 1 + 1 + 1, 1, none⟩ (by simp only []; omega) (.int .i64 i)).setOther ⟨w.heap.size + 1 + 1 + 1, 2, none⟩ (by simp only []; omega) (.slice (some ⟨g, 0, none⟩) ds.length cg)
        have b4 := ((b3.setCell (p := ⟨w.heap.size + 1 + 1 + 1, 0, none⟩) (by simp only []; omega) (.int .i64 c)).setCell (p := ⟨w.heap.size + 1 + 1 + 1, 1, none⟩) (by simp only []; omega) (.int .i64 i)).setCell (p := ⟨w.heap.size + 1 + 1 + 1, 2, none⟩) (by simp only []; omega) (.slice (some ⟨g, 0, none⟩) ds.length cg)
        go_wp2
        go_meet
        case rel => exact ⟨w.heap.size + 1 + 1 + 1, some ⟨g, 0, none⟩, cg, rfl, by omega, fun e => by have h : g = w.heap.size + 1 + 1 + 1 := Option.some.inj e; rcases hat with h1 | h1; (have h2 : w.heap.size + 1 + 1 = g := Option.some.inj h1; omega); omega, kq4, hown4, kr4, b4⟩
      · have hown4 := owns_set3 hown3 (w.heap.size + 1 + 1) (fun e => by have h : g = w.heap.size + 1 + 1 := Option.some.inj e; rcases hat with h1 | h1; (have h2 : w.heap.size + 1 + 1 + 1 = g := Option.some.inj h1; omega); omega) (.int .i64 c) (.int .i64 i) (.slice (some ⟨g, 0, none⟩) ds.length cg)
        rw [Nat.zero_add, List.nil_append] at hown4
        have kq4 := ((kq.set 0 (.int .i64 c)).set 1 (.int .i64 i)).set 2 (.slice (some ⟨g, 0, none⟩) ds.length cg)
        have kr4 := ((kr.setOther ⟨w.heap.size + 1 + 1, 0, none⟩ (by simp only []; omega) (.int .i64 c)).setOther ⟨w.heap.size + 1 + 1, 1, none⟩ (by simp only []; omega) (.int .i64 i)).setOther ⟨w.heap.size + 1 + 1, 2, none⟩ (by simp only []; omega) (.slice (some ⟨g, 0, none⟩) ds.length cg)
        have b4 := ((b3.setCell (p := ⟨w.heap.size + 1 + 1, 0, none⟩) (by simp only []; omega) (.int .i64 c)).setCell (p := ⟨w.heap.size + 1 + 1, 1, none⟩) (by simp only []; omega) (.int .i64 i)).setCell (p := ⟨w.heap.size + 1 + 1, 2, none⟩) (by simp only []; omega) (.slice (some ⟨g, 0, none⟩) ds.length cg)
        go_wp2
        go_meet
        case rel => exact ⟨w.heap.size + 1 + 1, some ⟨g, 0, none⟩, cg, rfl, by omega, fun e => by have h : g = w.heap.size + 1 + 1 := Option.some.inj e; rcases hat with h1 | h1; (have h2 : w.heap.size + 1 + 1 + 1 = g := Option.some.inj h1; omega); omega, kq4, hown4, kr4, b4⟩
  case rest =>
    obtain ⟨BQ, sa, sc, rfl, hBQ, hnq, kQ, hown, kR, hb⟩ := hcut
    have q0 := kQ.cell 0
    have q1 := kQ.cell 1
    have q2 := kQ.cell 2
    have z0 := kQ.frozen 0
    have z1 := kQ.frozen 1
    have z2 := kQ.frozen 2
    have r0 := kR.cell 0
    have r1 := kR.cell 1
    have r2 := kR.cell 2
    have y0 := kR.frozen 0
    have y1 := kR.frozen 1
    have y2 := kR.frozen 2
    simp only [List.getElem?_toArray, List.getElem?_cons_succ, List.getElem?_cons_zero] at q0 q1 q2 r0 r1 r2
    have hne1 : ¬ BQ = w.heap.size + 1 := by omega
    have hne2 : ¬ w.heap.size + 1 = BQ := by omega
    go_wp2_with fail
    refine (pick_any how 8 _ hh (by omega)).mono ?_
    rintro e w1 ⟨⟨r, rfl, hr0, hr8⟩, rfl⟩
    have hrow := row_of_owns hown
    have hnr : (Value.slice sa ds.length sc).ownBlock ≠ some (w.heap.size + 1) := fun e => by have := (hown.lt _ e).1; omega
    have hcs : r = 0 ∨ r = 1 ∨ r = 2 ∨ r = 3 ∨ r = 4 ∨ r = 5 ∨ r = 6 ∨ r = 7 := by omega
    rcases hcs with rfl | rfl | rfl | rfl | rfl | rfl | rfl | rfl
    · go_wp2
      exact bodyPost_ret (v := .agg #[.int .i64 (c + 1), .int .i64 (i), .slice sa ds.length sc]) (by simp [results, Try.results16, go_sem, r0, r1, r2]) rfl
        ⟨_, rfl, ⟨c + 1, i, ds, _, rfl, ((((hrow.set (BQ) 0 hnq (.int .i64 (c + 1))).set (w.heap.size + 1) 0 hnr (.int .i64 (c + 1))).set (w.heap.size + 1) 1 hnr (.int .i64 (i))).set (w.heap.size + 1) 2 hnr (.slice sa ds.length sc)), hd, by omega, by omega⟩, ((((hb.setCell (p := ⟨BQ, 0, none⟩) (by simp only []; omega) (.int .i64 (c + 1))).setCell (p := ⟨w.heap.size + 1, 0, none⟩) (by simp only []; omega) (.int .i64 (c + 1))).setCell (p := ⟨w.heap.size + 1, 1, none⟩) (by simp only []; omega) (.int .i64 (i))).setCell (p := ⟨w.heap.size + 1, 2, none⟩) (by simp only []; omega) (.slice sa ds.length sc))⟩
    · go_wp2
      exact bodyPost_ret (v := .agg #[.int .i64 (c), .int .i64 (i + 1), .slice sa ds.length sc]) (by simp [results, Try.results16, go_sem, r0, r1, r2]) rfl
        ⟨_, rfl, ⟨c, i + 1, ds, _, rfl, ((((hrow.set (BQ) 1 hnq (.int .i64 (i + 1))).set (w.heap.size + 1) 0 hnr (.int .i64 (c))).set (w.heap.size + 1) 1 hnr (.int .i64 (i + 1))).set (w.heap.size + 1) 2 hnr (.slice sa ds.length sc)), hd, by omega, by omega⟩, ((((hb.setCell (p := ⟨BQ, 1, none⟩) (by simp only []; omega) (.int .i64 (i + 1))).setCell (p := ⟨w.heap.size + 1, 0, none⟩) (by simp only []; omega) (.int .i64 (c))).setCell (p := ⟨w.heap.size + 1, 1, none⟩) (by simp only []; omega) (.int .i64 (i + 1))).setCell (p := ⟨w.heap.size + 1, 2, none⟩) (by simp only []; omega) (.slice sa ds.length sc))⟩
    · have hdb := u64_bounds d
      have kx := kQ.lt
      go_wp2_with (at_builtin; refine wpList_append_lies _ rfl _ _ _ rfl (w.heap.size + 2) 25 ii (.int .u64 0) 1 8 Try.underlying32 hii hi0 hi1 hi2 rfl (by omega) (.slice sa ds.length sc) ds.length _ rfl (hown.alloc _) ⟨wc.heap.size, 0, none⟩ 1 1 [.int .u64 (d % 18446744073709551616)] rfl rfl ?c1 ?c2 (by omega) ?c3 ?c4 ?c5 (wc.heap.size + 1) ?c6 ?_)
      case c1 => exact cell_one_new _ _ _
      case c2 => intro u hu; simp at hu; subst hu; rfl
      case c3 => unfold maxLen; omega
      case c4 => omega
      case c5 => simp; omega
      case c6 => simp
      intro g cg w3 hown3 hgrow hat hlt
      have kQ3 := (kQ.alloc (.cells #[.int .u64 (d % 18446744073709551616)] 25)).grown hgrow hnq
      have kR3 := (kR.alloc (.cells #[.int .u64 (d % 18446744073709551616)] 25)).grown hgrow hnr
      have hb3 := (hb.alloc hb.size _).grown hgrow (by have := hb.size; simp; omega) (fun k e => by have := (hown.lt k e).1; omega)
      have hg2 := (hown3.lt g rfl).1
      have hnq3 : (Value.slice (some ⟨g, 0, none⟩) (ds.length + 1) cg).ownBlock ≠ some BQ := fun e => by
        have h : g = BQ := Option.some.inj e
        rcases hat with h1 | h1
        · exact hnq (h1.trans (by rw [h]))
        · omega
      have hnr3 : (Value.slice (some ⟨g, 0, none⟩) (ds.length + 1) cg).ownBlock ≠ some (w.heap.size + 1) := fun e => by
        have h : g = w.heap.size + 1 := Option.some.inj e
        omega
      have hrow3 : Row w3 (.slice (some ⟨g, 0, none⟩) (ds.length + 1) cg) ((ds ++ [d % 18446744073709551616]).map (Value.int .u64)) := by rw [List.map_append]; exact row_of_owns hown3
      have hd3 : ∀ x ∈ ds ++ [d % 18446744073709551616], 0 ≤ x ∧ x ≤ 18446744073709551615 := fun x hx => by
        rcases List.mem_append.1 hx with h | h
        · exact hd x h
        · simp at h; subst h; exact hdb
      clear q0 q1 q2 z0 z1 z2 r0 r1 r2 y0 y1 y2 hown hgrow
      have q0 := kQ3.cell 0
      have q1 := kQ3.cell 1
      have q2 := kQ3.cell 2
      have z2 := kQ3.frozen 2
      have r0 := kR3.cell 0
      have r1 := kR3.cell 1
      have r2 := kR3.cell 2
      have y0 := kR3.frozen 0
      have y1 := kR3.frozen 1
      have y2 := kR3.frozen 2
      simp only [List.getElem?_toArray, List.getElem?_cons_succ, List.getElem?_cons_zero] at q0 q1 q2 r0 r1 r2
      go_wp2
      exact bodyPost_ret (v := .agg #[.int .i64 (c), .int .i64 (i), .slice (some ⟨g, 0, none⟩) (ds.length + 1) cg]) (by simp [results, Try.results16, go_sem, r0, r1, r2]) rfl
        ⟨_, rfl, ⟨c, i, ds ++ [d % 18446744073709551616], _, rfl, ((((hrow3.set (BQ) 2 hnq3 (.slice (some ⟨g, 0, none⟩) (ds.length + 1) cg)).set (w.heap.size + 1) 0 hnr3 (.int .i64 (c))).set (w.heap.size + 1) 1 hnr3 (.int .i64 (i))).set (w.heap.size + 1) 2 hnr3 (.slice (some ⟨g, 0, none⟩) (ds.length + 1) cg)), hd3, by omega, by omega⟩, ((((hb3.setCell (p := ⟨BQ, 2, none⟩) (by simp only []; omega) (.slice (some ⟨g, 0, none⟩) (ds.length + 1) cg)).setCell (p := ⟨w.heap.size + 1, 0, none⟩) (by simp only []; omega) (.int .i64 (c))).setCell (p := ⟨w.heap.size + 1, 1, none⟩) (by simp only []; omega) (.int .i64 (i))).setCell (p := ⟨w.heap.size + 1, 2, none⟩) (by simp only []; omega) (.slice (some ⟨g, 0, none⟩) (ds.length + 1) cg))⟩
    · rcases Nat.eq_zero_or_pos ds.length with hL | hL
      · have hL' : ¬ (0 : Int) < (ds.length : Int) := by omega
        clear hL
        go_wp2
        exact bodyPost_ret (v := .agg #[.int .i64 (c), .int .i64 (i), .slice sa ds.length sc]) (by simp [results, Try.results16, go_sem, r0, r1, r2]) rfl
          ⟨_, rfl, ⟨c, i, ds, _, rfl, (((hrow.set (w.heap.size + 1) 0 hnr (.int .i64 (c))).set (w.heap.size + 1) 1 hnr (.int .i64 (i))).set (w.heap.size + 1) 2 hnr (.slice sa ds.length sc)), hd, by omega, by omega⟩, (((hb.setCell (p := ⟨w.heap.size + 1, 0, none⟩) (by simp only []; omega) (.int .i64 (c))).setCell (p := ⟨w.heap.size + 1, 1, none⟩) (by simp only []; omega) (.int .i64 (i))).setCell (p := ⟨w.heap.size + 1, 2, none⟩) (by simp only []; omega) (.slice sa ds.length sc))⟩
      · have hL' : (0 : Int) < (ds.length : Int) := by omega
        obtain ⟨g, rfl⟩ : ∃ g, sa = some ⟨g, 0, none⟩ := by
          rcases hown.2 with ⟨_, h⟩ | ⟨g, c, cu, h, _⟩
          · omega
          · simp at h; exact ⟨g, h.1⟩
        have hcap : ds.length ≤ sc ∧ sc ≤ maxLen := by
          rcases hown.2 with ⟨h, _⟩ | ⟨g', c', cu, h, _, _, h1, h2, _⟩
          · simp at h
          · simp at h; omega
        have hcap1 : 1 ≤ sc := by omega
        have hrow4 : Row wc (.slice (some ⟨g, 1, none⟩) (ds.length - 1) (sc - 1)) ((ds.drop 1).map (Value.int .u64)) := by
          refine ⟨_, sc - 1, by rw [List.length_map, List.length_drop], by simp; omega, by omega, ?_⟩
          by_cases h1 : ds.length = 1
          · left; rw [List.drop_eq_nil_of_le (by omega)]; rfl
          · right
            refine ⟨g, 1, rfl, (hown.lt g rfl).2, fun k hk => ?_⟩
            have hk' : k + 1 < ds.length := by simp at hk; omega
            rw [show 1 + k = k + 1 by omega, hown.cellAt (k + 1) (by omega)]
            simp [hk']
        have hd4 : ∀ x ∈ ds.drop 1, 0 ≤ x ∧ x ≤ 18446744073709551615 := fun x hx => hd x (List.mem_of_mem_drop hx)
        have hnq5 : (Value.slice (some ⟨g, 0, none⟩) (ds.length - 1) 0).ownBlock ≠ some BQ := hnq
        have hnr5 : (Value.slice (some ⟨g, 0, none⟩) (ds.length - 1) 0).ownBlock ≠ some (w.heap.size + 1) := hnr
        have hnq6 : (Value.slice (some ⟨g, 1, none⟩) (ds.length - 1) (sc - 1)).ownBlock ≠ some BQ := hnq
        have hnr6 : (Value.slice (some ⟨g, 1, none⟩) (ds.length - 1) (sc - 1)).ownBlock ≠ some (w.heap.size + 1) := hnr
        go_wp2
        · have hrow5 : Row wc (.slice (some ⟨g, 0, none⟩) (ds.length - 1) 0) ((ds.drop 1).map (Value.int .u64)) := by
            have h0 : ds.drop 1 = [] := List.drop_eq_nil_of_le (by omega)
            have h1 : ds.length - 1 = 0 := by omega
            rw [h0, h1]
            exact ⟨_, 0, rfl, Nat.le_refl _, Nat.zero_le _, .inl rfl⟩
          exact bodyPost_ret (v := .agg #[.int .i64 (c), .int .i64 (i), .slice (some ⟨g, 0, none⟩) (ds.length - 1) 0]) (by simp [results, Try.results16, go_sem, r0, r1, r2]) rfl
            ⟨_, rfl, ⟨c, i, ds.drop 1, _, rfl, ((((hrow5.set (BQ) 2 hnq5 (.slice (some ⟨g, 0, none⟩) (ds.length - 1) 0)).set (w.heap.size + 1) 0 hnr5 (.int .i64 (c))).set (w.heap.size + 1) 1 hnr5 (.int .i64 (i))).set (w.heap.size + 1) 2 hnr5 (.slice (some ⟨g, 0, none⟩) (ds.length - 1) 0)), hd4, by omega, by omega⟩, ((((hb.setCell (p := ⟨BQ, 2, none⟩) (by simp only []; omega) (.slice (some ⟨g, 0, none⟩) (ds.length - 1) 0)).setCell (p := ⟨w.heap.size + 1, 0, none⟩) (by simp only []; omega) (.int .i64 (c))).setCell (p := ⟨w.heap.size + 1, 1, none⟩) (by simp only []; omega) (.int .i64 (i))).setCell (p := ⟨w.heap.size + 1, 2, none⟩) (by simp only []; omega) (.slice (some ⟨g, 0, none⟩) (ds.length - 1) 0))⟩
        · skip
          exact bodyPost_ret (v := .agg #[.int .i64 (c), .int .i64 (i), .slice (some ⟨g, 1, none⟩) (ds.length - 1) (sc - 1)]) (by simp [results, Try.results16, go_sem, r0, r1, r2]) rfl
            ⟨_, rfl, ⟨c, i, ds.drop 1, _, rfl, ((((hrow4.set (BQ) 2 hnq6 (.slice (some ⟨g, 1, none⟩) (ds.length - 1) (sc - 1))).set (w.heap.size + 1) 0 hnr6 (.int .i64 (c))).set (w.heap.size + 1) 1 hnr6 (.int .i64 (i))).set (w.heap.size + 1) 2 hnr6 (.slice (some ⟨g, 1, none⟩) (ds.length - 1) (sc - 1))), hd4, by omega, by omega⟩, ((((hb.setCell (p := ⟨BQ, 2, none⟩) (by simp only []; omega) (.slice (some ⟨g, 1, none⟩) (ds.length - 1) (sc - 1))).setCell (p := ⟨w.heap.size + 1, 0, none⟩) (by simp only []; omega) (.int .i64 (c))).setCell (p := ⟨w.heap.size + 1, 1, none⟩) (by simp only []; omega) (.int .i64 (i))).setCell (p := ⟨w.heap.size + 1, 2, none⟩) (by simp only []; omega) (.slice (some ⟨g, 1, none⟩) (ds.length - 1) (sc - 1)))⟩
    · rcases Nat.eq_zero_or_pos ds.length with hL | hL
      · have hL' : ¬ (0 : Int) < (ds.length : Int) := by omega
        clear hL
        go_wp2
        exact bodyPost_ret (v := .agg #[.int .i64 (c), .int .i64 (i), .slice sa ds.length sc]) (by simp [results, Try.results16, go_sem, r0, r1, r2]) rfl
          ⟨_, rfl, ⟨c, i, ds, _, rfl, (((hrow.set (w.heap.size + 1) 0 hnr (.int .i64 (c))).set (w.heap.size + 1) 1 hnr (.int .i64 (i))).set (w.heap.size + 1) 2 hnr (.slice sa ds.length sc)), hd, by omega, by omega⟩, (((hb.setCell (p := ⟨w.heap.size + 1, 0, none⟩) (by simp only []; omega) (.int .i64 (c))).setCell (p := ⟨w.heap.size + 1, 1, none⟩) (by simp only []; omega) (.int .i64 (i))).setCell (p := ⟨w.heap.size + 1, 2, none⟩) (by simp only []; omega) (.slice sa ds.length sc))⟩
      · have hL' : (0 : Int) < (ds.length : Int) := by omega
        obtain ⟨g, rfl⟩ : ∃ g, sa = some ⟨g, 0, none⟩ := by
          rcases hown.2 with ⟨_, h⟩ | ⟨g, c, cu, h, _⟩
          · omega
          · simp at h; exact ⟨g, h.1⟩
        have hLb : 1 ≤ (ds.length : Int) ∧ (ds.length : Int) ≤ 9223372036854775807 := by omega
        have hgB : g < wc.heap.size := (hown.lt g rfl).2
        have hgb2 := (hown.lt g rfl).1
        go_wp2_with fail
        go_region_with (go_at_call 17; refine (pick_any d (ds.length : Int) _ hdd hLb).mono ?_; rintro e w1 ⟨⟨r, rfl, hr0, hr8⟩, rfl⟩; obtain ⟨rn, rfl⟩ := Int.eq_ofNat_of_zero_le hr0; have hcr := hown.cellAt rn (by omega); have hfr := hown.frozenAt rn; rw [List.getElem?_map, List.getElem?_eq_getElem (by omega)] at hcr; simp only [Option.map_some] at hcr)
        all_goals
          have hst := hown.stored rn (.int .u64 (IntKind.u64.wrap d))
          have hgq : BQ ≠ g := fun e => hnq (by rw [e]; rfl)
          have hgr : w.heap.size + 1 ≠ g := by omega
          have kQ3 := kQ.setOther ⟨g, rn, none⟩ hgq (.int .u64 (IntKind.u64.wrap d))
          have kR3 := kR.setOther ⟨g, rn, none⟩ hgr (.int .u64 (IntKind.u64.wrap d))
          have hb3 := hb.setCell (p := ⟨g, rn, none⟩) (by simp only []; omega) (.int .u64 (IntKind.u64.wrap d))
          have hrow3 : Row (wc.setCell ⟨g, rn, none⟩ (.int .u64 (IntKind.u64.wrap d))) (.slice (some ⟨g, 0, none⟩) ds.length sc) ((ds.set rn (IntKind.u64.wrap d)).map (Value.int .u64)) := by rw [List.map_set]; exact row_of_owns hst.1
          have hd3 : ∀ x ∈ ds.set rn (IntKind.u64.wrap d), 0 ≤ x ∧ x ≤ 18446744073709551615 := fun x hx => by
            rcases List.mem_or_eq_of_mem_set hx with h | h
            · exact hd x h
            · subst h; exact wrap_bd d
          clear q0 q1 q2 z0 z1 z2 r0 r1 r2 y0 y1 y2 hcr hfr
          have q0 := kQ3.cell 0
          have q1 := kQ3.cell 1
          have q2 := kQ3.cell 2
          have r0 := kR3.cell 0
          have r1 := kR3.cell 1
          have r2 := kR3.cell 2
          have y0 := kR3.frozen 0
          have y1 := kR3.frozen 1
          have y2 := kR3.frozen 2
          simp only [List.getElem?_toArray, List.getElem?_cons_succ, List.getElem?_cons_zero] at q0 q1 q2 r0 r1 r2
          go_wp2
          exact bodyPost_ret (v := .agg #[.int .i64 (c), .int .i64 (i), .slice (some ⟨g, 0, none⟩) ds.length sc]) (by simp [results, Try.results16, go_sem, r0, r1, r2]) rfl
            ⟨_, rfl, ⟨c, i, ds.set rn (IntKind.u64.wrap d), _, rfl, (row_drew (((hrow3.set (w.heap.size + 1) 0 hnr (.int .i64 (c))).set (w.heap.size + 1) 1 hnr (.int .i64 (i))).set (w.heap.size + 1) 2 hnr (.slice (some ⟨g, 0, none⟩) ds.length sc))), hd3, by omega, by omega⟩, (((hb3.setCell (p := ⟨w.heap.size + 1, 0, none⟩) (by simp only []; omega) (.int .i64 (c))).setCell (p := ⟨w.heap.size + 1, 1, none⟩) (by simp only []; omega) (.int .i64 (i))).setCell (p := ⟨w.heap.size + 1, 2, none⟩) (by simp only []; omega) (.slice (some ⟨g, 0, none⟩) ds.length sc)).drew⟩
    · go_wp2
      exact bodyPost_ret (v := .agg #[.int .i64 (d), .int .i64 (i), .slice sa ds.length sc]) (by simp [results, Try.results16, go_sem, r0, r1, r2]) rfl
        ⟨_, rfl, ⟨d, i, ds, _, rfl, ((((hrow.set (BQ) 0 hnq (.int .i64 d)).set (w.heap.size + 1) 0 hnr (.int .i64 (d))).set (w.heap.size + 1) 1 hnr (.int .i64 (i))).set (w.heap.size + 1) 2 hnr (.slice sa ds.length sc)), hd, by omega, by omega⟩, ((((hb.setCell (p := ⟨BQ, 0, none⟩) (by simp only []; omega) (.int .i64 d)).setCell (p := ⟨w.heap.size + 1, 0, none⟩) (by simp only []; omega) (.int .i64 (d))).setCell (p := ⟨w.heap.size + 1, 1, none⟩) (by simp only []; omega) (.int .i64 (i))).setCell (p := ⟨w.heap.size + 1, 2, none⟩) (by simp only []; omega) (.slice sa ds.length sc))⟩
    · go_wp2
      exact bodyPost_ret (v := .agg #[.int .i64 (c), .int .i64 (i), .slice sa ds.length sc]) (by simp [results, Try.results16, go_sem, r0, r1, r2]) rfl
        ⟨_, rfl, ⟨c, i, ds, _, rfl, (((hrow.set (w.heap.size + 1) 0 hnr (.int .i64 (c))).set (w.heap.size + 1) 1 hnr (.int .i64 (i))).set (w.heap.size + 1) 2 hnr (.slice sa ds.length sc)), hd, by omega, by omega⟩, (((hb.setCell (p := ⟨w.heap.size + 1, 0, none⟩) (by simp only []; omega) (.int .i64 (c))).setCell (p := ⟨w.heap.size + 1, 1, none⟩) (by simp only []; omega) (.int .i64 (i))).setCell (p := ⟨w.heap.size + 1, 2, none⟩) (by simp only []; omega) (.slice sa ds.length sc))⟩
    · go_wp2
      exact bodyPost_ret (v := .agg #[.int .i64 (c), .int .i64 (i), .slice sa ds.length sc]) (by simp [results, Try.results16, go_sem, r0, r1, r2]) rfl
        ⟨_, rfl, ⟨c, i, ds, _, rfl, (((hrow.set (w.heap.size + 1) 0 hnr (.int .i64 (c))).set (w.heap.size + 1) 1 hnr (.int .i64 (i))).set (w.heap.size + 1) 2 hnr (.slice sa ds.length sc)), hd, by omega, by omega⟩, (((hb.setCell (p := ⟨w.heap.size + 1, 0, none⟩) (by simp only []; omega) (.int .i64 (c))).setCell (p := ⟨w.heap.size + 1, 1, none⟩) (by simp only []; omega) (.int .i64 (i))).setCell (p := ⟨w.heap.size + 1, 2, none⟩) (by simp only []; omega) (.slice sa ds.length sc))⟩
end Go.Proofs.Ytabimdlooddcoaa
