/- Images whose texts lie in memory of their own. -/
import Derived.Test.YtcpjcjonlkgblaaPImgs
import Derived.RangeFuncNested
import Derived.OrdersIn
import Derived.OrdersHeld
import Derived.WalkKit
import Derived.Test.YtcpjcjonlkgblaaM08
import Derived.Deep.RegionHeld
import Derived.RangeFuncWrites
import Derived.RangeFuncBox
import Derived.Maps.AppendAt
import Derived.Test.YtcpjcjonlkgblaaM39
import Derived.Test.YtcpjcjonlkgblaaM04

namespace Go.Proofs.Ytcpjcjonlkgblaa
open Go.RowKit
set_option linter.unusedVariables false
set_option linter.unusedSimpArgs false

set_option maxHeartbeats 800000 in
theorem treeI_new (x : Int) (w : World) (hx : 0 ≤ x ∧ x ≤ 18446744073709551615) :
    Calls Try.prog 23 #[.int .u64 x] w fun e w' => ∃ v, e = .returned v ∧ ImgN w.heap.size w' 5 [str (be x 8)] v ∧ Below w.heap.size w w' := by
  go_enter Try.func23, Try.ntmps23
  go_wp2_with fail
  refine (weight _ _ hx).mono ?_
  rintro e w2 ⟨rfl, b12⟩
  obtain ⟨kc, kf, kz⟩ := own_kept b12
  have c0 := kc 0
  have c1 := kc 1
  have f0 := kf 0
  have f1 := kf 1
  clear kc kf
  go_wp2
  have hS := strs_one ((w2.setCell ⟨w.heap.size, 0, none⟩ (.int .i64 5)).setCell ⟨w.heap.size, 1, none⟩ (.slice (some ⟨w2.heap.size, 0, none⟩) 1 1)) (str (be x 8)) (be8_size x)
  rw [size_setCell, size_setCell] at hS
  have hb : Below w.heap.size w w2 := ((Below.refl _ _).alloc (Nat.le_refl _) _).trans (b12.mono (by simp))
  exact bodyPost_ret (v := .agg #[.int .i64 5, .slice (some ⟨w2.heap.size, 0, none⟩) 1 1]) (by simp [results, Try.results23, go_sem, c0, c1, kz]) rfl
    ⟨_, rfl, ⟨_, 1, rfl, Nat.le_of_lt kz, by rw [World.size_alloc, size_setCell, size_setCell]; omega, hS⟩, ((hb.setCell (Nat.le_refl _) _).setCell (Nat.le_refl _) _).alloc (by rw [size_setCell, size_setCell]; exact Nat.le_of_lt kz) _⟩

set_option maxHeartbeats 400000 in
theorem entryI_new (s t : ByteArray) (w : World) (hs : s.size ≤ maxLen) (ht : t.size ≤ maxLen) :
    Calls Try.prog 56 #[.string s, .string t] w fun e w' => ∃ v, e = .returned v ∧ ImgN w.heap.size w' 3 [s, t] v ∧ Below w.heap.size w w' := by
  go_enter Try.func56, Try.ntmps56
  go_wp2
  have hS := strs_two (w.alloc (.cells #[.int .i64 3, .slice (some ⟨w.heap.size + 1, 0, none⟩) 2 2] 47)) s t hs ht
  rw [World.size_alloc] at hS
  exact bodyPost_ret (v := .agg #[.int .i64 3, .slice (some ⟨w.heap.size + 1, 0, none⟩) 2 2]) (by simp [results, Try.results56, go_sem]) rfl
    ⟨_, rfl, ⟨_, 2, rfl, by omega, by simp, hS⟩, ((Below.refl _ _).alloc (Nat.le_refl _) _).alloc (by simp) _⟩

set_option maxHeartbeats 800000 in
theorem forkI_new (p x y : Int) (w : World) (hx : 0 ≤ x ∧ x ≤ 18446744073709551615) (hy : 0 ≤ y ∧ y ≤ 18446744073709551615) :
    Calls Try.prog 58 #[.int .i64 p, .int .u64 x, .int .u64 y] w fun e w' => ∃ v, e = .returned v ∧ ImgN w.heap.size w' 4 (forkParts p x y) v ∧ Below w.heap.size w w' := by
  go_enter Try.func58, Try.ntmps58
  go_wp2_with fail
  refine (wfive _ _).mono ?_
  rintro e w0 ⟨rfl, b0⟩
  go_wp2_with fail
  refine (weight _ _ hx).mono ?_
  rintro e w1 ⟨rfl, b1⟩
  go_wp2_with fail
  refine (weight _ _ hy).mono ?_
  rintro e w2 ⟨rfl, b2⟩
  have b01 := b0.trans (b1.mono b0.size)
  have b12 := b01.trans (b2.mono b01.size)
  obtain ⟨kc, kf, kz⟩ := own_kept b12
  have c0 := kc 0
  have c1 := kc 1
  have f0 := kf 0
  have f1 := kf 1
  clear kc kf
  go_wp2
  have hS := strs_three ((w2.setCell ⟨w.heap.size, 0, none⟩ (.int .i64 4)).setCell ⟨w.heap.size, 1, none⟩ (.slice (some ⟨w2.heap.size, 0, none⟩) 3 3)) (str (be p 5)) (str (be x 8)) (str (be y 8)) (be5_size p) (be8_size x) (be8_size y)
  rw [size_setCell, size_setCell] at hS
  have hb : Below w.heap.size w w2 := ((Below.refl _ _).alloc (Nat.le_refl _) _).trans (b12.mono (by simp))
  exact bodyPost_ret (v := .agg #[.int .i64 4, .slice (some ⟨w2.heap.size, 0, none⟩) 3 3]) (by simp [results, Try.results58, go_sem, c0, c1, kz]) rfl
    ⟨_, rfl, ⟨_, 3, rfl, Nat.le_of_lt kz, by rw [World.size_alloc, size_setCell, size_setCell]; omega, hS⟩, ((hb.setCell (Nat.le_refl _) _).setCell (Nat.le_refl _) _).alloc (by rw [size_setCell, size_setCell]; exact Nat.le_of_lt kz) _⟩
end Go.Proofs.Ytcpjcjonlkgblaa

namespace Go.Proofs.Ytcpjcjonlkgblaa
open Go.RowKit
set_option linter.unusedVariables false
variable {P : Program} {md : Region.Mode} {ops : Array Oper} {Q : Exit → Act → World → Prop}

/-- No operation defers. -/
def noDefer (ops : Array Oper) : Bool := ops.all fun o => match o.op with | .defer _ => false | _ => true

theorem wpOpIn_of (l n : Nat) (hd : noDefer ops = true) (hout : ¬ LetsOut Q) {i : Nat} {K K' : Act → World → Prop} {a : Act} {w : World} (hK : ∀ a w, K a w → K' a w) (h : wpOp P ops Q i K a w) : wpOpIn (Fence.wide.inRound l) n P ops Q i K' a w := by
  unfold wpOp at h
  unfold wpOpIn
  cases ho : ops[i]? with
  | none => rw [ho] at h; exact hK _ _ h
  | some o =>
    rw [ho] at h
    simp only at h ⊢
    have hnd : ∀ c, o.op ≠ .defer c := by
      intro c e
      have hi := Array.getElem?_eq_some_iff.1 ho
      obtain ⟨hlt, he⟩ := hi
      have := (Array.all_eq_true.1 hd) i hlt
      rw [he, e] at this
      cases this
    split
    · rename_i hw
      rw [if_pos hw] at h
      rcases h with h | ⟨_, h⟩
      · refine ⟨fun _ _ => trivial, ?_⟩
        rw [Oper.semAt_eq _ _ _ hnd]
        unfold Oper.wp at h
        generalize (execOp a.eval o).run P w = r at h ⊢
        cases r with
        | ok x w' =>
          cases x with
          | value v => exact hK _ _ h
          | skip => exact hK _ _ h
          | defer d => exact hK _ _ h
          | enter f args =>
            refine ⟨fun hx => (by cases hx), (CallsIn.inRound l (callsIn_wide.2 h)).mono fun e w'' he => ?_⟩
            cases e with
            | returned v => exact hK _ _ he
            | panicked c => exact he
            | outgrown => exact he
          | row r args => exact ⟨fun hx => (by cases hx), fun c cs _ => let ⟨v, w'', r, s⟩ := h c cs; ⟨v, w'', hK _ _ r, stepsIn_wide.2 s⟩⟩
          | _ => exact h.elim
        | halt x w' => cases x <;> exact h
      · exact (hout h).elim
    · rename_i hw
      rw [if_neg hw] at h
      exact ⟨fun _ _ => trivial, hK _ _ h⟩

theorem wpAnyIn_of (l n : Nat) (hd : noDefer ops = true) (hout : ¬ LetsOut Q) : ∀ fuel listed a w, wpAny P md ops Q fuel listed a w → wpAnyIn (Fence.wide.inRound l) n P md ops Q fuel listed a w
  | 0, _, _, _, h => h
  | fuel + 1, _, _, _, h => ⟨h.1, fun i hi => wpOpIn_of l n hd hout (fun a' w' h' => wpAnyIn_of l n hd hout fuel _ a' w' h') (h.2 i hi)⟩

theorem wpIn_region_of {id : Nat} {a : Act} {w : World} (l n : Nat) (hm : P.follows .mixedOrders = true) (hd : noDefer ops = true) (hout : ¬ LetsOut Q)
    (h : wpAny P .any ops Q ops.size (Array.replicate ops.size false) a w.drew) : (Code.region id ops true).wpIn (Fence.wide.inRound l) n P Q a w :=
  wpIn_region_any hm (wpAnyIn_of l n hd hout _ _ _ _ h)
end Go.Proofs.Ytcpjcjonlkgblaa

namespace Go.Proofs.Ytcpjcjonlkgblaa
open Go.RowKit
set_option linter.unusedVariables false
variable {P : Program} {ops : Array Oper} {Q : Exit → Act → World → Prop}

theorem wpAny_region_last {S : World → Prop} {a : Act} {w : World} (m : Nat) (om : Oper) (hm : ops[m]? = some om) (hB : lastB .any ops m = true)
    (h : wpAnyH P .any (ops.setIfInBounds m { om with op := .move (.const undef) }) (ThenLast P ops Q m) S ops.size (Array.replicate ops.size false) a w.drew) : wpAny P .any ops Q ops.size (Array.replicate ops.size false) a w.drew := by
  unfold lastB at hB
  rw [hm] at hB
  simp only [Bool.and_eq_true, List.all_eq_true, List.mem_range] at hB
  obtain ⟨h1, ⟨h2, h3⟩, h4⟩ := hB
  have hml : m < ops.size := (Array.getElem?_eq_some_iff.1 hm).1
  have hd : om.dst = none := Option.isNone_iff_eq_none.1 h3
  have hgd : om.guard = none := Option.isNone_iff_eq_none.1 h4
  refine wpAny_last (ops' := ops.setIfInBounds m { om with op := .move (.const undef) }) m om { om with op := .move (.const undef) } (by simp) hm (by simp [hml]) (fun j hj => Array.getElem?_setIfInBounds_ne (Ne.symm hj)) rfl rfl hd hgd (nop_wp rfl hd) (nop_asks rfl) ?_ ?_ ops.size _ a _ (by simp) ?_ (wpAny_of_held _ _ _ _ h)
  · intro j o hj e he
    have hjl : j < ops.size := (Array.getElem?_eq_some_iff.1 hj).1
    have := h1 j hjl
    rw [hj] at this
    have := (Array.all_eq_true'.1 this) e he
    simpa using this
  · intro j hj hjm
    have := h2 j hj
    rw [Bool.or_eq_true] at this
    rcases this with h5 | h5
    · exact (hjm (by simpa using h5)).elim
    · obtain ⟨e, he, hb⟩ := Array.any_eq_true'.1 h5
      rw [Bool.and_eq_true] at hb
      exact ⟨e, he, hb.1, by simpa using hb.2⟩
  · simp [Array.getD, hml]

/-- A region inside a round, its last operation parted off. -/
theorem wpIn_region_last {S : World → Prop} {id : Nat} {a : Act} {w : World} (l n m : Nat) (om : Oper) (hm : ops[m]? = some om) (hB : lastB .any ops m = true) (hx : P.follows .mixedOrders = true) (hd : noDefer ops = true) (hout : ¬ LetsOut Q)
    (h : wpAnyH P .any (ops.setIfInBounds m { om with op := .move (.const undef) }) (ThenLast P ops Q m) S ops.size (Array.replicate ops.size false) a w.drew) : (Code.region id ops true).wpIn (Fence.wide.inRound l) n P Q a w :=
  wpIn_region_of l n hx hd hout (wpAny_region_last m om hm hB h)
/-- A region inside a round, by what is held. -/
theorem wpIn_region_held {S : World → Prop} {id : Nat} {a : Act} {w : World} (l n : Nat) (hx : P.follows .mixedOrders = true) (hd : noDefer ops = true) (hout : ¬ LetsOut Q)
    (h : wpAnyH P .any ops Q S ops.size (Array.replicate ops.size false) a w.drew) : (Code.region id ops true).wpIn (Fence.wide.inRound l) n P Q a w :=
  wpIn_region_of l n hx hd hout (wpAny_of_held _ _ _ _ h)
end Go.Proofs.Ytcpjcjonlkgblaa

namespace Go.Proofs.Ytcpjcjonlkgblaa
open Go.RowKit Go.Shelf
set_option linter.unusedVariables false
set_option linter.unusedSimpArgs false

structure WayAt (wB : World) (L : Nat) (wd : Int) (key val : Key) (bsv : Value) (ts : List (Int × Int)) (E0 : List Ent) (e : Ent) (sv : Value) (W : World) : Prop where
  below : Below wB.heap.size wB W
  hL : wB.heap.size ≤ L
  last : Blk W L #[.int .i64 e.tag, .slice e.a e.ss.length e.cap] 47
  box : Blk W (L + 2) #[sv] 70
  it : Blk W (L + 3) #[bsv] 23
  row : W.ownsRow (L + 1) 47 2 sv (E0 ++ [e]).length (flatE (E0 ++ [e]))
  ok : okE W (E0 ++ [e])
  apart : Apart sv (E0 ++ [e])
  off0 : OffB L (E0 ++ [e])
  off2 : OffB (L + 2) (E0 ++ [e])
  imgs : (E0 ++ [e]).map Ent.img = (ups wd key val ts).reverse
  dig : digI wd e.img = upsD wd key val ts
  len : E0.length = ts.length
  few : e.ss.length ≤ 3

theorem blk_grownN {W W' : World} {row : Option Nat} {b : Nat} {cs : Array Value} {t : TypeId} (h : Blk W b cs t) (hg : W.grownBy W' row) (hr : ∀ r, row = some r → ∃ o : Obj, W.heap[r]? = some o ∧ o.isCells = false) : Blk W' b cs t := by
  refine h.grown hg fun e => ?_
  obtain ⟨o, h1, h2⟩ := hr b e
  have := Option.some.inj (h1.symm.trans h)
  subst this
  cases h2
theorem okE.grownN {W W' : World} {row : Option Nat} {E : List Ent} (h : okE W E) (hg : W.grownBy W' row) (hr : ∀ r, row = some r → ∃ o : Obj, W.heap[r]? = some o ∧ o.isCells = false) : okE W' E := fun e he => by
  obtain ⟨⟨h1, h2⟩, b, off, e1, h3⟩ := h e he
  refine ⟨⟨h1, ?_⟩, b, off, e1, Nat.lt_of_lt_of_le h3 hg.size⟩
  rcases h2 with h2 | ⟨b2, o2, e2, h4, h5⟩
  · exact .inl h2
  · exact .inr ⟨b2, o2, e2, Nat.lt_of_lt_of_le h4 hg.size, fun i hi => cell_kept (h5 i hi) hg hr⟩
theorem owns_grownN {W W' : World} {row : Option Nat} {base : Nat} {e : TypeId} {size : Nat} {v : Value} {n : Nat} {xs : List Value} (h : W.ownsRow base e size v n xs) (hg : W.grownBy W' row) (hr : ∀ r, row = some r → ∃ o : Obj, W.heap[r]? = some o ∧ o.isCells = false) : W'.ownsRow base e size v n xs := by
  refine h.kept hg ?_
  cases hv : v.ownBlock with
  | none => exact .inl rfl
  | some k =>
    right
    intro e
    obtain ⟨o, h1, h2⟩ := hr k e.symm
    rcases h.2 with ⟨rfl, _⟩ | ⟨g, cap, cur, rfl, _, hgh, _⟩
    · cases hv
    · have hk : g = k := by simpa [Value.ownBlock] using hv
      subst hk
      have := Option.some.inj (h1.symm.trans hgh)
      subst this
      cases h2
theorem WayAt.own {wB : World} {L B : Nat} {wd : Int} {key val : Key} {bsv : Value} {ts : List (Int × Int)} {E0 : List Ent} {e : Ent} {sv : Value} {W W' : World} {row : Option Nat} (h : WayAt wB L wd key val bsv ts E0 e sv W) (hB : wB.heap.size ≤ B) (hg : W.grownBy W' row) (hr : ∀ r, row = some r → B ≤ r ∧ ∃ o : Obj, W.heap[r]? = some o ∧ o.isCells = false) :
    WayAt wB L wd key val bsv ts E0 e sv W' := by
  have hr2 : ∀ r, row = some r → ∃ o : Obj, W.heap[r]? = some o ∧ o.isCells = false := fun r e => (hr r e).2
  exact ⟨h.below.grown hg h.below.size (fun k e => Nat.le_trans hB (hr k e).1), h.hL, blk_grownN h.last hg hr2, blk_grownN h.box hg hr2, blk_grownN h.it hg hr2, owns_grownN h.row hg hr2, h.ok.grownN hg hr2, h.apart, h.off0, h.off2, h.imgs, h.dig, h.len, h.few⟩
theorem WayAt.next {wB : World} {L : Nat} {wd : Int} {key val : Key} {bsv : Value} {ts : List (Int × Int)} {E0 : List Ent} {e : Ent} {sv : Value} {W W' : World} (h : WayAt wB L wd key val bsv ts E0 e sv W) (hb : Below W.heap.size W W') : WayAt wB L wd key val bsv ts E0 e sv W' :=
  ⟨h.below.trans (hb.mono h.below.size), h.hL, h.last.below hb h.last.lt, h.box.below hb h.box.lt, h.it.below hb h.it.lt, owns_below h.row hb, h.ok.below hb, h.apart, h.off0, h.off2, h.imgs, h.dig, h.len, h.few⟩
end Go.Proofs.Ytcpjcjonlkgblaa

namespace Go.Proofs.Ytcpjcjonlkgblaa
open Go.RowKit Go.Shelf
set_option linter.unusedVariables false
set_option linter.unusedSimpArgs false

theorem cells_pair (w : World) (x y : Value) (ty : TypeId) (H : Nat) (hH : w.heap.size = H) : ∀ j u, ([x, y])[j]? = some u → (w.alloc (.cells #[x, y] ty)).cell? ((⟨H, 0, none⟩ : Addr).add j) = some u := by
  subst hH
  intro j u hj
  have hj2 : j < 2 := (List.getElem?_eq_some_iff.1 hj).1
  have hb := Blk.new w #[x, y] ty
  have ha : (⟨w.heap.size, 0, none⟩ : Addr).add j = ⟨w.heap.size, j, none⟩ := by unfold Addr.add; split <;> simp_all
  rw [ha, hb.cell]
  simpa using hj
/-- The turns that have come, the last one first. -/
def turnsOf (pre : List (Nat × Tn)) : List (Int × Int) := (pre.map fun x => x.2.1).reverse
theorem turnsOf_snoc (pre : List (Nat × Tn)) (x : Nat × Tn) : turnsOf (pre ++ [x]) = x.2.1 :: turnsOf pre := by simp [turnsOf]
theorem turnsOf_all (zs : List Tn) : turnsOf (backs zs zs.length) = zs.map (·.1) := by
  have h := congrArg (fun l => (l.map (fun t : Tn => t.1)).reverse) (backs_all zs)
  simp only [List.map_map, List.map_reverse, List.reverse_reverse] at h
  exact h
theorem keeps_below {B : Nat} {W W' : World} (hb : Below W.heap.size W W') : KeepsFrom B W W' := ⟨hb.size, fun k o _ hk _ => (hb.block k (Array.getElem?_eq_some_iff.1 hk).1).trans hk⟩

theorem WayAt.grow {wB : World} {L : Nat} {wd : Int} {key val : Key} {bsv : Value} {ts : List (Int × Int)} {E0 : List Ent} {e e' : Ent} {sv : Value} {W W1 W4 : World} {t : Int × Int} {b' g cg : Nat}
    (h : WayAt wB L wd key val bsv ts E0 e sv W) (h1 : Below W.heap.size W W1) (ha : e'.a = some ⟨b', 0, none⟩) (hb1 : W.heap.size ≤ b') (hb2 : b' < W1.heap.size) (hS : Strs W1 e'.a e'.ss) (hi : e'.img = forkImg key t (upsD wd key val ts)) (hf : e'.ss.length ≤ 3)
    (hown : W4.ownsRow (L + 1) 47 2 (.slice (some ⟨g, 0, none⟩) ((E0 ++ [e]).length + 1) cg) ((E0 ++ [e]).length + 1) (flatE (E0 ++ [e]) ++ e'.cells))
    (hgrow : ((((W1.setCell ⟨L, 0, none⟩ (.int .i64 e'.tag)).setCell ⟨L, 1, none⟩ (.slice e'.a e'.ss.length e'.cap))).alloc (.cells #[.int .i64 e'.tag, .slice e'.a e'.ss.length e'.cap] 47)).grownBy W4 sv.ownBlock) (hat : sv.ownBlock = some g ∨ g = W1.heap.size + 1) :
    WayAt wB L wd key val bsv (t :: ts) (E0 ++ [e]) e' (.slice (some ⟨g, 0, none⟩) ((E0 ++ [e]).length + 1) cg) (W4.setCell ⟨L + 2, 0, none⟩ (.slice (some ⟨g, 0, none⟩) ((E0 ++ [e]).length + 1) cg)) ∧
    Blk W4 (L + 2) #[sv] 70 ∧ KeepsFrom (L + 4) W (W4.setCell ⟨L + 2, 0, none⟩ (.slice (some ⟨g, 0, none⟩) ((E0 ++ [e]).length + 1) cg)) ∧ KpB wB.heap.size (L + 3) W (W4.setCell ⟨L + 2, 0, none⟩ (.slice (some ⟨g, 0, none⟩) ((E0 ++ [e]).length + 1) cg)) := by
  have hW := h
  have h := h.next h1
  have zW := hW.it.lt
  have hsz := h1.size
  have hL := h.hL
  have n1 : sv.ownBlock ≠ some L := fun e => by have := (h.row.lt L e).1; omega
  have n3 : sv.ownBlock ≠ some (L + 3) := fun e => by
    rcases h.row.2 with ⟨rfl, _⟩ | ⟨g, cap, cur, rfl, _, hgh, _⟩
    · cases e
    · have hk : g = L + 3 := by simpa [Value.ownBlock] using e
      subst hk
      have := Option.some.inj (hgh.symm.trans h.it)
      injection this with _ h2 _
      exact absurd h2 (by decide)
  have n4 : sv.ownBlock ≠ some b' := fun e => by have := (hW.row.lt b' e).2; omega
  have o0 : OffB L (E0 ++ [e] ++ [e']) := h.off0.snoc e' fun b off hb => by rw [ha] at hb; injection hb with hb; injection hb with hb _; omega
  have o2 : OffB (L + 2) (E0 ++ [e] ++ [e']) := h.off2.snoc e' fun b off hb => by rw [ha] at hb; injection hb with hb; injection hb with hb _; omega
  have ap : Apart sv (E0 ++ [e] ++ [e']) := h.apart.snoc e' fun b off hb => by rw [ha] at hb; injection hb with hb; injection hb with hb _; subst hb; exact n4
  have ok1 : okE W1 (E0 ++ [e] ++ [e']) := h.ok.snoc e' ⟨hS, b', 0, ha, hb2⟩
  obtain ⟨W2, HW2⟩ : ∃ x, x = (W1.setCell ⟨L, 0, none⟩ (.int .i64 e'.tag)).setCell ⟨L, 1, none⟩ (.slice e'.a e'.ss.length e'.cap) := ⟨_, rfl⟩
  rw [← HW2] at hgrow
  have s2 : W2.heap.size = W1.heap.size := by rw [HW2, size_setCell, size_setCell]
  have last2 : Blk W2 L #[.int .i64 e'.tag, .slice e'.a e'.ss.length e'.cap] 47 := by rw [HW2]; exact (h.last.set 0 _).set 1 _
  have box2 : Blk W2 (L + 2) #[sv] 70 := by rw [HW2]; exact (h.box.setOther _ (by show L + 2 ≠ L; omega) _).setOther _ (by show L + 2 ≠ L; omega) _
  have it2 : Blk W2 (L + 3) #[bsv] 23 := by rw [HW2]; exact (h.it.setOther _ (by show L + 3 ≠ L; omega) _).setOther _ (by show L + 3 ≠ L; omega) _
  have row2 : W2.ownsRow (L + 1) 47 2 sv (E0 ++ [e]).length (flatE (E0 ++ [e])) := by rw [HW2]; exact owns_set2 h.row L n1 _ _
  have ok2 : okE W2 (E0 ++ [e] ++ [e']) := by rw [HW2]; exact (ok1.set o0 0 _).set o0 1 _
  have bel2 : Below wB.heap.size wB W2 := by rw [HW2]; exact (h.below.setCell (p := ⟨L, 0, none⟩) hL _).setCell (p := ⟨L, 1, none⟩) hL _
  have belW2 : Below wB.heap.size W W2 := by rw [HW2]; exact ((h1.mono hW.below.size).setCell (p := ⟨L, 0, none⟩) hL _).setCell (p := ⟨L, 1, none⟩) hL _
  have kp2 : KeepsFrom (L + 4) W W2 := by rw [HW2]; exact ((keeps_below h1).trans ((KeepsOthers.setCell _ _ _).from _)).trans ((KeepsOthers.setCell _ _ _).from _)
  have kc2 : W2.cell? ⟨L + 3, 0, none⟩ = W.cell? ⟨L + 3, 0, none⟩ := by rw [it2.cell, hW.it.cell]
  have hv : Boxed W2 (L + 2) 70 sv := box2
  obtain ⟨hv1, hv2, hr2, hk2, hb3⟩ := hv.appended (by decide) row2 (by omega) (by omega) hown hgrow
  have last4 : Blk W4 L #[.int .i64 e'.tag, .slice e'.a e'.ss.length e'.cap] 47 := (last2.alloc _).grown hgrow n1
  have it4 : Blk W4 (L + 3) #[bsv] 23 := (it2.alloc _).grown hgrow n3
  have ok3 : okE (W2.alloc (.cells #[.int .i64 e'.tag, .slice e'.a e'.ss.length e'.cap] 47)) (E0 ++ [e] ++ [e']) := ok2.below ((Below.refl _ _).alloc (Nat.le_refl _) _)
  have ok4 : okE W4 (E0 ++ [e] ++ [e']) := ok3.grown hgrow ap
  have hlen : (E0 ++ [e] ++ [e']).length = (E0 ++ [e]).length + 1 := by simp
  have itF := it4.setOther ⟨L + 2, 0, none⟩ (by show L + 3 ≠ L + 2; omega) (.slice (some ⟨g, 0, none⟩) ((E0 ++ [e]).length + 1) cg)
  refine ⟨⟨bel2.trans (hb3.mono (by omega)), hL, last4.setOther ⟨L + 2, 0, none⟩ (by show L ≠ L + 2; omega) _, hv2, itF, by rw [hlen, flatE_snoc]; exact hr2, ok4.set o2 0 _, Apart.next ap ok3 hat (by rw [World.size_alloc, s2]), o0, o2, ?_, ?_, ?_, hf⟩, hv1, kp2.trans (hk2.from _), belW2.trans (hb3.mono (by omega)), ?_⟩
  · rw [List.map_append, h.imgs, List.map_cons, List.map_nil, hi]; simp [ups]
  · rw [hi]; rfl
  · simp [h.len]
  · rw [itF.cell, hW.it.cell]

theorem way_start {wB w1 : World} {wd : Int} {key val : Key} {bsv : Value} {b1 c1 : Nat} (hB : Below wB.heap.size wB w1) (h1 : wB.heap.size ≤ b1) (h2 : b1 < w1.heap.size) (hS : Strs w1 (some ⟨b1, 0, none⟩) [str key, str val]) :
    WayAt wB w1.heap.size wd key val bsv [] [] ⟨3, some ⟨b1, 0, none⟩, c1, [str key, str val]⟩ (.slice (some ⟨w1.heap.size + 1, 0, none⟩) 1 1)
      ((((w1.alloc (.cells #[.int .i64 3, .slice (some ⟨b1, 0, none⟩) 2 c1] 47)).alloc (.cells #[.int .i64 3, .slice (some ⟨b1, 0, none⟩) 2 c1] 47)).alloc (.cells #[.slice (some ⟨w1.heap.size + 1, 0, none⟩) 1 1] 70)).alloc (.cells #[bsv] 23)) := by
  have bA : Below w1.heap.size w1 ((((w1.alloc (.cells #[.int .i64 3, .slice (some ⟨b1, 0, none⟩) 2 c1] 47)).alloc (.cells #[.int .i64 3, .slice (some ⟨b1, 0, none⟩) 2 c1] 47)).alloc (.cells #[.slice (some ⟨w1.heap.size + 1, 0, none⟩) 1 1] 70)).alloc (.cells #[bsv] 23)) :=
    ((((Below.refl _ _).alloc (Nat.le_refl _) _).alloc (by simp) _).alloc (by simp; omega) _).alloc (by simp; omega) _
  have kR := ((Blk.new (w1.alloc (.cells #[.int .i64 3, .slice (some ⟨b1, 0, none⟩) 2 c1] 47)) #[.int .i64 3, .slice (some ⟨b1, 0, none⟩) 2 c1] 47).alloc (.cells #[.slice (some ⟨w1.heap.size + 1, 0, none⟩) 1 1] 70)).alloc (.cells #[bsv] 23)
  rw [World.size_alloc] at kR
  have kB := (Blk.new ((w1.alloc (.cells #[.int .i64 3, .slice (some ⟨b1, 0, none⟩) 2 c1] 47)).alloc (.cells #[.int .i64 3, .slice (some ⟨b1, 0, none⟩) 2 c1] 47)) #[.slice (some ⟨w1.heap.size + 1, 0, none⟩) 1 1] 70).alloc (.cells #[bsv] 23)
  rw [World.size_alloc, World.size_alloc] at kB
  have kI := Blk.new (((w1.alloc (.cells #[.int .i64 3, .slice (some ⟨b1, 0, none⟩) 2 c1] 47)).alloc (.cells #[.int .i64 3, .slice (some ⟨b1, 0, none⟩) 2 c1] 47)).alloc (.cells #[.slice (some ⟨w1.heap.size + 1, 0, none⟩) 1 1] 70)) #[bsv] 23
  simp only [World.size_alloc] at kI
  have one : ∀ {H : Nat}, b1 ≠ H → OffB H ([] ++ [(⟨3, some ⟨b1, 0, none⟩, c1, [str key, str val]⟩ : Ent)]) := fun hne x hx b off hb => by
    simp at hx
    subst hx
    simp at hb
    omega
  refine ⟨hB.trans (bA.mono hB.size), hB.size, (((Blk.new w1 _ _).alloc _).alloc _).alloc _, kB, kI, ⟨by simp [flatE, Ent.cells], .inr ⟨w1.heap.size + 1, 1, _, rfl, Nat.le_refl _, kR, Nat.le_refl _, by unfold maxLen; omega, rfl, rfl⟩⟩, ?_, ?_, one (by omega), one (by omega), by simp [ups, leafImg, Ent.img], rfl, rfl, by simp⟩
  · intro x hx
    simp at hx
    subst hx
    exact ⟨hS.below bA, b1, 0, rfl, Nat.lt_of_lt_of_le h2 bA.size⟩
  · intro x hx b off hb
    simp at hx
    subst hx
    simp at hb
    simp [Value.ownBlock]
    omega
end Go.Proofs.Ytcpjcjonlkgblaa
