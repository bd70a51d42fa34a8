/- Items of all keys, of an empty tree. -/
import Derived.Test.YtmhllihedejehaaGreatTItems
namespace Go.Proofs.YtmhllihedejehaaGreat
open Go.RowKit Go.Shelf
attribute [local go_sem] Oper.semAt_some
set_option linter.unusedVariables false
set_option linter.unusedSimpArgs false

/-- What the closure of leaves does, where there is no tree. -/
theorem leaves1_none (wd : Int) (w0 : World) (lb : Nat) (J Jx : List (Lf wd w0) → World → Prop) (n Bn : Nat) (xs : List (Lf wd w0)) (hx : xs = [])
    (W : World) (hBn : W.cell? ⟨Bn, 0, none⟩ = some (.pointer none)) (h0 : J [] W) :
    CallsIn Fence.wide n Tryz.prog 68 #[.func (.yield lb) #[] #[], .pointer (some ⟨Bn, 0, none⟩)] W fun e W' => (∃ v, e = .returned v) ∧ ((∃ ys, ys = xs ∧ J ys W') ∨ (∃ pre, pre <+: xs ∧ Jx pre W')) := by
  have hdd : ∀ k : Nat, (Fence.wide.depth.isSome = true → 1 ≤ k) := fun k h => by cases h
  refine callsIn_of_wp Tryz.func68 rfl trivial ?_ rfl
  simp only [Tryz.ntmps68, List.size_toArray, List.length_cons, List.length_nil, Nat.reduceAdd, Nat.reduceSub, Array.replicate_succ, Array.replicate_zero, List.push_toArray, List.append_toArray, List.nil_append, List.cons_append]
  gi_wp2
  go_end0
  exact ⟨⟨_, rfl⟩, .inl ⟨_, hx.symm, h0⟩⟩

theorem stops_none (wd : Int) (w0 : World) (n Bn : Nat) (xs : List (Lf wd w0)) (hx : xs = []) (w : World) (hB : Bn < w.heap.size) (hc : w.cell? ⟨Bn, 0, none⟩ = some (.pointer none)) :
    SeqStopsK Fence.wide n Tryz.prog 68 #[.pointer (some ⟨Bn, 0, none⟩)] (fun x : Lf wd w0 => #[Value.pointer (some ⟨x.1.1, 0, none⟩)]) (Below w0.heap.size) (fun ys => ys = xs) (fun pre => pre <+: xs) xs.length w := fun l J Jx W hW _ _ hY hJ =>
  leaves1_none wd w0 l J Jx n Bn xs hx W ((hW.cell (p := ⟨Bn, 0, none⟩) hB).trans hc) hJ

set_option maxRecDepth 100000 in
set_option maxHeartbeats 2000000 in
theorem items_none (wd : Int) (w : World) :
    Calls Tryz.prog 20 #[.agg #[.int .i64 wd, .pointer none], .string (str []), .int .i64 (-1)] w fun e W' => ∃ v, e = .returned v ∧ W'.ownsRow (w.heap.size + 3) 64 2 v 0 (flat []) ∧ Below w.heap.size w W' := by
  obtain ⟨xs, ex⟩ : ∃ xs : List (Lf wd w), xs = [] := ⟨_, rfl⟩
  obtain ⟨i0, hi, hz0, hz1, hz2⟩ := info_parts infoItem
  have hxl : xs.length = 0 := by rw [ex]; rfl
  refine (callsIn_wide (n := 5)).1 ?_
  refine callsIn_of_wp_marks Tryz.func20 rfl trivial ?_ rfl
  simp only [Tryz.ntmps20, List.size_toArray, List.length_cons, List.length_nil, Nat.reduceAdd, Nat.reduceSub, Array.replicate_succ, Array.replicate_zero, List.push_toArray, List.append_toArray, List.nil_append, List.cons_append]
  have hfm : Tryz.prog.follows .mixedOrders = true := by kernel_rfl
  have hdd : ∀ k : Nat, (Fence.wide.depth.isSome = true → 1 ≤ k) := fun k h => by cases h
  obtain ⟨wB, HwB⟩ : ∃ x, Hid (x = ((w.alloc (.cells #[.int .i64 wd, .pointer none] 34)).alloc (.cells #[.string (str [])] 9)).alloc (.cells #[.int .i64 (-1)] 3)) := ⟨_, rfl⟩
  have bB : Below w.heap.size w wB := by rw [HwB.out]; exact (((Below.refl _ _).alloc (Nat.le_refl _) _).alloc (by simp) _).alloc (by simp; omega) _
  have sB : wB.heap.size = w.heap.size + 3 := by rw [HwB.out]; simp
  have bC : Below wB.heap.size wB (wB.alloc (.cells #[.slice none 0 0] 22)) := (Below.refl _ _).alloc (Nat.le_refl _) _
  have KL := fun m => (callsIn_wide (n := m)).2 (leaves_none wd (wB.alloc (.cells #[.slice none 0 0] 22)))
  rw [HwB.out] at KL
  gi_wp2_with ((try refine ⟨trivial, ?_⟩); (try refine ⟨hdd _, ?_⟩); gi_at_call 40; refine (KL _).mono ?_; rintro e w1 ⟨⟨B, rfl, hc, hB1, hB2⟩, b1⟩)
  rw [← HwB.out] at b1 hB1
  have bW1 : Below wB.heap.size wB w1 := bC.trans (b1.mono bC.size)
  have bx7 : Boxed w1 (w.heap.size + 3) 22 (.slice none 0 0) := by
    have h0 := Boxed.new wB 22 (.slice none 0 0)
    rw [sB] at h0
    unfold Boxed at *
    rw [b1.block (w.heap.size + 3) (by simp [sB])]
    exact h0
  have c4 : wB.cell? ⟨w.heap.size + 1, 0, none⟩ = some (.string (str [])) := by
    rw [HwB.out]
    have h0 := ((Blk.new (w.alloc (.cells #[.int .i64 wd, .pointer none] 34)) #[.string (str [])] 9).alloc (.cells #[.int .i64 (-1)] 3)).cell 0
    rw [World.size_alloc] at h0
    exact h0.trans rfl
  have c5 : wB.cell? ⟨w.heap.size + 2, 0, none⟩ = some (.int .i64 (-1)) := by
    rw [HwB.out]
    have h0 := (Blk.new ((w.alloc (.cells #[.int .i64 wd, .pointer none] 34)).alloc (.cells #[.string (str [])] 9)) #[.int .i64 (-1)] 3).cell 0
    simp only [World.size_alloc] at h0
    exact h0.trans rfl
  have s1 : w.heap.size + 3 ≤ w1.heap.size := by have := bW1.size; omega
  have hM : ∀ x : Lf wd w, x.1.2.1.length ≤ 4096 → True := fun _ _ => trivial
  refine wpIn_rangeFunc_ownG rfl (by omega) (gf := 68) (lb := #[.pointer (some ⟨B, 0, none⟩)]) rfl trivial (enters_of Tryz.func68 (by kernel_rfl) rfl)
    (stops_none wd w 4 B xs ex w1 hB2 hc) belowK_t (belowK_b (by omega)) (Below.refl _ _) (fun _ => rfl)
    (fun pre W => (∃ v, Boxed W (w.heap.size + 3) 22 v ∧ W.ownsRow (w.heap.size + 3) 64 2 v pre.length (flat (its pre)) ∧ True) ∧ Below wB.heap.size wB W)
    (fun _ _ _ => False)
    (OwnFrom.and (Own.from (holdsRow_own (w.heap.size + 3) (w.heap.size + 3) 22 64 2 (fun pre => pre.length) (fun pre => flat (its pre)) (fun _ _ => True)) _) (ownFrom_below (Nat.le_refl _) (by omega)))
    (fun _ _ _ _ _ hs _ _ => hs)
    ⟨⟨_, bx7, World.ownsRow_nil _ _ _ _, trivial⟩, bW1⟩
    (fun x => { tmps := #[.agg #[.int .i64 wd, .pointer none], .string (str []), .int .i64 (-1), .pointer (some ⟨w.heap.size, 0, none⟩), .pointer (some ⟨w.heap.size + 1, 0, none⟩), .pointer (some ⟨w.heap.size + 1 + 1, 0, none⟩), .slice none 0 0, .pointer (some ⟨w.heap.size + 1 + 1 + 1, 0, none⟩), .pointer (some ⟨x.1.1, 0, none⟩), .agg #[.int .i64 wd, .pointer none], .string (str []), .func (.func 68) #[] #[.pointer (some ⟨B, 0, none⟩)], .pointer (some ⟨x.1.1, 0, none⟩), undef, undef, undef, undef, undef, undef, undef, undef, undef, undef, undef, undef, undef, undef, undef, undef, undef, undef, undef, undef, undef, undef, undef, undef, undef, undef], defers := [] }) ?assign ?body ?done ?stop
  case assign =>
    intro l x W K hK
    gi_wp2
    exact hK
  case body =>
    rintro l pre x W _ hlt
    exact absurd hlt (by rw [hxl]; omega)
  case done =>
    rintro D ys W hD rfl ⟨⟨v, hv, hrow, _⟩, hB⟩ hK
    have hc := hv.cell
    gi_wp2
    have hits : its ys = [] := by rw [ex]; rfl
    refine ⟨by simp, .inl ⟨_, _, rfl, run_takeDeferred hK, ?_⟩⟩
    have hw1 : w.heap.size ≤ w1.heap.size := by omega
    refine ⟨_, results_tmp rfl _ _ _, v, rfl, ?_, ?_⟩
    · rw [hits, hxl] at hrow
      exact ownsRow_putObj hrow _ hK rfl
    · exact (bB.trans (hB.mono bB.size)).trans (belowK_b (w := w) (Nat.le_refl _) W D _ _ (by omega) hK rfl rfl)
  case stop =>
    rintro D c pre W _ _ h _
    exact h.elim

/-- Items of all keys, of any tree. -/
theorem items_any (wd : Int) (q : Option Addr) (o : Option Tr) (w : World) (h : TopAt wd w (.pointer q) o) (hn : (itemsO o).length ≤ 100000) (hk : ∀ x ∈ itemsO o, x.1.length ≤ 4096) :
    Calls Tryz.prog 20 #[.agg #[.int .i64 wd, .pointer q], .string (str []), .int .i64 (-1)] w fun e W' => ∃ v, e = .returned v ∧ W'.ownsRow (w.heap.size + 3) 64 2 v (itemsO o).length (flat (itemsO o)) ∧ Below w.heap.size w W' := by
  cases o with
  | none =>
    have e : q = none := by have h : Value.pointer q = .pointer none := h; injection h
    subst e
    exact items_none wd w
  | some t =>
    obtain ⟨b, e, hb⟩ := h
    injection e with e
    subst e
    exact items_some wd b t w hb hn hk
end Go.Proofs.YtmhllihedejehaaGreat
