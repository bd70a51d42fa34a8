/- Items of any tree. -/
import Derived.RangeFuncNested
import Derived.RangeFuncWrites
import Derived.RangeFuncBox
import Derived.Maps.AppendAt
import Derived.Test.YtfjkgglflmakhaaDoorZItems
import Derived.Test.YtfjkgglflmakhaaDoorZPure
import Derived.Shelf.Strings.SlTrimAscii

namespace Go.Proofs.YtfjkgglflmakhaaDoor
open Go.RowKit Go.Shelf
attribute [local go_sem] Oper.semAt_some
set_option linter.unusedVariables false
set_option linter.unusedSimpArgs false

set_option maxHeartbeats 800000 in
theorem leaves_none_pre (wd : Int) (p : Key) (w : World) :
    Calls Tryd.prog 33 #[.agg #[.int .i64 wd, .pointer none], .string (str p)] w fun e w' => LeavesFn none w e w' ∧ Below w.heap.size w w' := by
  have hmf : ∀ (fn : Fn) (first cap : Array Value) (w : World), (Instr.makeFunc fn first cap).run Tryd.prog w = .ok (.func fn first cap) w := fun _ _ _ _ => rfl
  go_enter Tryd.func33, Tryd.ntmps33
  go_wp2_with fail
  refine wp_loop_rounds 1 ?_
  rw [rounds_succ]
  go_wp2
  go_ret
  exact ⟨⟨w.heap.size + 1, rfl, by simp, by omega, by simp⟩, ((Below.refl _ _).alloc (Nat.le_refl _) _).alloc (by simp) _⟩

set_option maxRecDepth 100000 in
set_option maxHeartbeats 2000000 in
theorem items_none_pre (wd : Int) (p : Key) (n : Int) (w : World) :
    Calls Tryd.prog 13 #[.agg #[.int .i64 wd, .pointer none], .string (str p), .int .i64 n] w fun e W' => ∃ v, e = .returned v ∧ W'.ownsRow (w.heap.size + 3) 66 2 v 0 (flat []) ∧ Below w.heap.size w W' := by
  obtain ⟨xs, ex⟩ : ∃ xs : List (Lf wd w), xs = [] := ⟨_, rfl⟩
  obtain ⟨i0, hi, hz0, hz1, hz2⟩ := info_parts infoItem
  have hxl : xs.length = 0 := by rw [ex]; rfl
  refine (callsIn_wide (n := 5)).1 ?_
  refine callsIn_of_wp_marks Tryd.func13 rfl trivial ?_ rfl
  simp only [Tryd.ntmps13, List.size_toArray, List.length_cons, List.length_nil, Nat.reduceAdd, Nat.reduceSub, Array.replicate_succ, Array.replicate_zero, List.push_toArray, List.append_toArray, List.nil_append, List.cons_append]
  have hfm : Tryd.prog.follows .mixedOrders = true := by kernel_rfl
  have hdd : ∀ k : Nat, (Fence.wide.depth.isSome = true → 1 ≤ k) := fun k h => by cases h
  obtain ⟨wB, HwB⟩ : ∃ x, Hid (x = ((w.alloc (.cells #[.int .i64 wd, .pointer none] 27)).alloc (.cells #[.string (str p)] 9)).alloc (.cells #[.int .i64 n] 3)) := ⟨_, rfl⟩
  have bB : Below w.heap.size w wB := by rw [HwB.out]; exact (((Below.refl _ _).alloc (Nat.le_refl _) _).alloc (by simp) _).alloc (by simp; omega) _
  have sB : wB.heap.size = w.heap.size + 3 := by rw [HwB.out]; simp
  have bC : Below wB.heap.size wB (wB.alloc (.cells #[.slice none 0 0] 29)) := (Below.refl _ _).alloc (Nat.le_refl _) _
  have KL := fun m => (callsIn_wide (n := m)).2 (leaves_none_pre wd p (wB.alloc (.cells #[.slice none 0 0] 29)))
  rw [HwB.out] at KL
  gi_wp2_with ((try refine ⟨trivial, ?_⟩); (try refine ⟨hdd _, ?_⟩); gi_at_call 33; refine (KL _).mono ?_; rintro e w1 ⟨⟨B, rfl, hc, hB1, hB2⟩, b1⟩)
  rw [← HwB.out] at b1 hB1
  have bW1 : Below wB.heap.size wB w1 := bC.trans (b1.mono bC.size)
  have bx7 : Boxed w1 (w.heap.size + 3) 29 (.slice none 0 0) := by
    have h0 := Boxed.new wB 29 (.slice none 0 0)
    rw [sB] at h0
    unfold Boxed at *
    rw [b1.block (w.heap.size + 3) (by simp [sB])]
    exact h0
  have c4 : wB.cell? ⟨w.heap.size + 1, 0, none⟩ = some (.string (str p)) := by
    rw [HwB.out]
    have h0 := ((Blk.new (w.alloc (.cells #[.int .i64 wd, .pointer none] 27)) #[.string (str p)] 9).alloc (.cells #[.int .i64 n] 3)).cell 0
    rw [World.size_alloc] at h0
    exact h0.trans rfl
  have c5 : wB.cell? ⟨w.heap.size + 2, 0, none⟩ = some (.int .i64 n) := by
    rw [HwB.out]
    have h0 := (Blk.new ((w.alloc (.cells #[.int .i64 wd, .pointer none] 27)).alloc (.cells #[.string (str p)] 9)) #[.int .i64 n] 3).cell 0
    simp only [World.size_alloc] at h0
    exact h0.trans rfl
  have s1 : w.heap.size + 3 ≤ w1.heap.size := by have := bW1.size; omega
  have hM : ∀ x : Lf wd w, x.1.2.1.length ≤ 4096 → True := fun _ _ => trivial
  refine wpIn_rangeFunc_ownG rfl (by omega) (gf := 51) (lb := #[.pointer (some ⟨B, 0, none⟩)]) rfl trivial (enters_of Tryd.func51 (by kernel_rfl) rfl)
    (stops_none wd w 4 B xs ex w1 hB2 hc) belowK_t (belowK_b (by omega)) (Below.refl _ _) (fun _ => rfl)
    (fun pre W => (∃ v, Boxed W (w.heap.size + 3) 29 v ∧ W.ownsRow (w.heap.size + 3) 66 2 v pre.length (flat (its pre)) ∧ True) ∧ Below wB.heap.size wB W)
    (fun _ _ _ => False)
    (OwnFrom.and (Own.from (holdsRow_own (w.heap.size + 3) (w.heap.size + 3) 29 66 2 (fun pre => pre.length) (fun pre => flat (its pre)) (fun _ _ => True)) _) (ownFrom_below (Nat.le_refl _) (by omega)))
    (fun _ _ _ _ _ hs _ _ => hs)
    ⟨⟨_, bx7, World.ownsRow_nil _ _ _ _, trivial⟩, bW1⟩
    (fun x => { tmps := #[.agg #[.int .i64 wd, .pointer none], .string (str p), .int .i64 n, .pointer (some ⟨w.heap.size, 0, none⟩), .pointer (some ⟨w.heap.size + 1, 0, none⟩), .pointer (some ⟨w.heap.size + 1 + 1, 0, none⟩), .slice none 0 0, .pointer (some ⟨w.heap.size + 1 + 1 + 1, 0, none⟩), .pointer (some ⟨x.1.1, 0, none⟩), .agg #[.int .i64 wd, .pointer none], .string (str p), .func (.func 51) #[] #[.pointer (some ⟨B, 0, none⟩)], .pointer (some ⟨x.1.1, 0, none⟩), undef, undef, undef, undef, undef, undef, undef, undef, undef, undef, undef, undef, undef, undef, undef, undef, undef, undef, undef, undef, undef, undef, undef, undef, undef, undef], defers := [] }) ?assign ?body ?done ?stop
  case assign =>
    intro l x W K hK
    gi_wp2
    exact hK
  case body =>
    rintro l pre x W _ hlt
    exact absurd hlt (by rw [hxl]; omega)
  case done =>
    rintro D ys W hD rfl ⟨⟨v, hv, hrow, _⟩, hB⟩ hK
    have hc := hv.cell
    gi_wp2
    have hits : its ys = [] := by rw [ex]; rfl
    refine ⟨by simp, .inl ⟨_, _, rfl, run_takeDeferred hK, ?_⟩⟩
    have hw1 : w.heap.size ≤ w1.heap.size := by omega
    refine ⟨_, results_tmp rfl _ _ _, v, rfl, ?_, ?_⟩
    · rw [hits, hxl] at hrow
      exact ownsRow_putObj hrow _ hK rfl
    · exact (bB.trans (hB.mono bB.size)).trans (belowK_b (w := w) (Nat.le_refl _) W D _ _ (by omega) hK rfl rfl)
  case stop =>
    rintro D c pre W _ _ h _
    exact h.elim

/-- Items, of any tree. -/
theorem items_all (wd : Int) (q : Option Addr) (o : Option Tr) (p : Key) (n : Int) (w : World) (hp : p.length ≤ 100000000) (g : Good o) (hn : (itemsO o).length ≤ 100000) (h : TopAt wd w (.pointer q) o) :
    Calls Tryd.prog 13 #[.agg #[.int .i64 wd, .pointer q], .string (str p), .int .i64 n] w fun e W' => ∃ sa sc, e = .returned (.slice sa (someP p n o).length sc) ∧ ItemsAt W' sa (someP p n o) ∧ Below w.heap.size w W' := by
  cases o with
  | none =>
    have e : q = none := by have h : Value.pointer q = .pointer none := h; injection h
    subst e
    have e2 : someP p n none = [] := by unfold someP itemsO most; simp
    rw [e2]
    refine (items_none_pre wd p n w).mono fun e w' ⟨v, h1, h2, h3⟩ => ?_
    obtain ⟨sa, sc, rfl, hi⟩ := ItemsAt.of_owns (m := []) h2
    exact ⟨sa, sc, h1, hi, h3⟩
  | some t =>
    obtain ⟨b, e, hb⟩ := h
    injection e with e
    subst e
    refine (items_pre wd b t p n w hp hb g.wf (g.placed t rfl) hn (fun x hx => by have := (g.keys x hx).1; omega)).mono fun e w' ⟨v, h1, h2, h3⟩ => ?_
    obtain ⟨sa, sc, rfl, hi⟩ := ItemsAt.of_owns h2
    exact ⟨sa, sc, h1, hi, h3⟩
end Go.Proofs.YtfjkgglflmakhaaDoor

namespace Go.Proofs.YtfjkgglflmakhaaDoor
open Go.RowKit Go.Shelf
set_option linter.unusedVariables false
set_option linter.unusedSimpArgs false

def lays160_ren : Go.Shelf.Ren := ⟨fun | 160 => 41 | 232 => 55 | 231 => 54 | 227 => 56 | 234 => 58 | 233 => 57 | 236 => 60 | 235 => 59 | 228 => 70 | 271 => 73 | 151 => 72 | 197 => 71 | 120 => 78 | 152 => 77 | 260 => 76 | 137 => 80 | 119 => 81 | 224 => 82 | 225 => 83 | 217 => 84 | 266 => 85 | n => n, fun | 9 => 9 | 4 => 4 | 3 => 3 | 5 => 5 | 117 => 101 | 116 => 100 | 0 => 0 | 124 => 104 | 21 => 21 | 105 => 112 | 46 => 108 | 119 => 118 | 139 => 121 | 138 => 120 | n => n, fun | 3 => 0 | 4 => 1 | n => n⟩
theorem lays160 : Go.Proofs.Lays.n160 Tryd.prog lays160_ren := {
  mixed := by kernel_rfl
  f119 := Tryd.func81.trans (congrArg some (by kernel_rfl))
  f120 := Tryd.func78.trans (congrArg some (by kernel_rfl))
  f137 := Tryd.func80.trans (congrArg some (by kernel_rfl))
  f151 := Tryd.func72.trans (congrArg some (by kernel_rfl))
  f152 := Tryd.func77.trans (congrArg some (by kernel_rfl))
  f160 := Tryd.func41.trans (congrArg some (by kernel_rfl))
  f197 := Tryd.func71.trans (congrArg some (by kernel_rfl))
  f217 := Tryd.func84.trans (congrArg some (by kernel_rfl))
  f224 := Tryd.func82.trans (congrArg some (by kernel_rfl))
  f225 := Tryd.func83.trans (congrArg some (by kernel_rfl))
  f227 := Tryd.func56.trans (congrArg some (by kernel_rfl))
  f228 := Tryd.func70.trans (congrArg some (by kernel_rfl))
  f231 := Tryd.func54.trans (congrArg some (by kernel_rfl))
  f232 := Tryd.func55.trans (congrArg some (by kernel_rfl))
  f233 := Tryd.func57.trans (congrArg some (by kernel_rfl))
  f234 := Tryd.func58.trans (congrArg some (by kernel_rfl))
  f235 := Tryd.func59.trans (congrArg some (by kernel_rfl))
  f236 := Tryd.func60.trans (congrArg some (by kernel_rfl))
  f260 := Tryd.func76.trans (congrArg some (by kernel_rfl))
  f266 := Tryd.func85.trans (congrArg some (by kernel_rfl))
  f271 := Tryd.func73.trans (congrArg some (by kernel_rfl))
  t0 := Tryd.underlying0
  a0 := Tryd.isAgg0
  z0 := Tryd.sizeOf0
  v0 := Tryd.zeroValue0
  t3 := Tryd.underlying3
  a3 := Tryd.isAgg3
  z3 := Tryd.sizeOf3
  v3 := Tryd.zeroValue3
  t4 := Tryd.underlying4
  a4 := Tryd.isAgg4
  z4 := Tryd.sizeOf4
  v4 := Tryd.zeroValue4
  t5 := Tryd.underlying5
  a5 := Tryd.isAgg5
  z5 := Tryd.sizeOf5
  v5 := Tryd.zeroValue5
  t9 := Tryd.underlying9
  a9 := Tryd.isAgg9
  z9 := Tryd.sizeOf9
  v9 := Tryd.zeroValue9
  t21 := Tryd.underlying21
  a21 := Tryd.isAgg21
  z21 := Tryd.sizeOf21
  v21 := Tryd.zeroValue21
  t46 := Tryd.underlying108
  a46 := Tryd.isAgg108
  z46 := Tryd.sizeOf108
  v46 := Tryd.zeroValue108
  t105 := Tryd.underlying112
  a105 := Tryd.isAgg112
  z105 := Tryd.sizeOf112
  v105 := Tryd.zeroValue112
  t116 := Tryd.underlying100
  a116 := Tryd.isAgg100
  z116 := Tryd.sizeOf100
  t117 := Tryd.underlying101
  a117 := Tryd.isAgg101
  z117 := Tryd.sizeOf101
  v117 := Tryd.zeroValue101
  t119 := Tryd.underlying118
  a119 := Tryd.isAgg118
  z119 := Tryd.sizeOf118
  t124 := Tryd.underlying104
  a124 := Tryd.isAgg104
  z124 := Tryd.sizeOf104
  v124 := Tryd.zeroValue104
  t138 := Tryd.underlying120
  a138 := Tryd.isAgg120
  z138 := Tryd.sizeOf120
  v138 := Tryd.zeroValue120
  t139 := Tryd.underlying121
  a139 := Tryd.isAgg121
  z139 := Tryd.sizeOf121
  v139 := Tryd.zeroValue121
  g3 := by kernel_rfl
  g4 := by kernel_rfl }

/-- Is it a way? -/
def isWay (s : Key) : Bool := s.all fun c => c == 48 || c == 49
theorem trim_way (s : Key) : (Lib.trimS s [48, 49] == []) = isWay s := by
  have hc : ∀ c : UInt8, [48, 49].contains c = (c == 48 || c == 49) := fun c => by simp only [List.contains, List.elem]; cases (c == 48) <;> cases (c == 49) <;> rfl
  have hl : ∀ l : Key, l.dropWhile (fun c => [48, 49].contains c) = [] ↔ isWay l = true := by
    intro l
    unfold isWay
    induction l with
    | nil => simp
    | cons c r ih =>
      rw [List.dropWhile_cons, List.all_cons]
      by_cases h : (c == 48 || c == 49) = true
      · rw [if_pos (by rw [hc]; exact h), h, Bool.true_and]; exact ih
      · have h' : (c == 48 || c == 49) = false := by simpa using h
        rw [if_neg (by rw [hc, h']; simp), h']
        simp
  have hd : ∀ l : Key, isWay (l.dropWhile (fun c => [48, 49].contains c)) = true → isWay l = true := by
    intro l
    induction l with
    | nil => intro h; exact h
    | cons c r ih =>
      rw [List.dropWhile_cons]
      split
      · rename_i h
        intro h2
        have h3 := ih h2
        rw [hc] at h
        unfold isWay at h3 ⊢
        rw [List.all_cons, h, h3]; rfl
      · intro h2; exact h2
  have hr : ∀ l : Key, isWay l.reverse = isWay l := fun l => by unfold isWay; exact List.all_reverse
  rw [Bool.eq_iff_iff, beq_iff_eq]
  unfold Lib.trimS Lib.trimLeftS Lib.trimRightS
  rw [hl, hr]
  constructor
  · intro h; rw [← hr]; exact hd _ h
  · intro h
    rw [(hl s.reverse).2 (by rw [hr]; exact h)]
    rfl
theorem trim_any (s : Key) (w : World) (hs : s.length ≤ maxLen) : Calls Tryd.prog 41 #[.string (str s), .string ⟨#[48, 49]⟩] w fun e w' => e = .returned (.string (str (Lib.trimS s [48, 49]))) ∧ Below w.heap.size w w' := by
  have h := Any.strings_Trim_laid lays160 (by kernel_rfl) (str s) ⟨#[48, 49]⟩ w (by rw [str_size]; unfold maxLen at hs; omega) (by decide) (ascii_of_all (by decide))
  exact h
end Go.Proofs.YtfjkgglflmakhaaDoor
