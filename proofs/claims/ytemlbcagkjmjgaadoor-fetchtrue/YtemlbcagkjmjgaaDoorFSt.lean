/- A tree that is being fetched, in memory. -/
import Derived.Test.YtemlbcagkjmjgaaDoorFEnd
import Derived.Test.YtemlbcagkjmjgaaDoorFFits
import Derived.Test.YtemlbcagkjmjgaaDoorTPut4
import Derived.Maps.OwnSet
namespace Go.Proofs.YtemlbcagkjmjgaaDoor
open Go.RowKit Go.Maps
set_option linter.unusedVariables false
set_option linter.unusedSimpArgs false

theorem lawInt : Keyed Tryd.prog 3 := int_keyed Tryd.underlying3
theorem zeroUnit (w : World) : (zeroValue 81).run Tryd.prog w = .ok (.agg #[]) w := by kernel_rfl
/-- Those who are barred. -/
def barD (l : List Int) : DataW Unit := setOf (.agg []) (l.map fun x => Lit.int .i64 x)
theorem barD_snoc (l : List Int) (x : Int) : barD (l ++ [x]) = (barD l).put (.int .i64 x) (.agg []) := by
  unfold barD
  rw [List.map_append]
  exact setOf_snoc _ _ _
theorem bar_has (l : List Int) (x : Int) : Maps.has (barD l) (.int .i64 x) = l.contains x := by
  unfold barD
  rw [has_setOf _ _ _ (fun y hy => by obtain ⟨z, _, rfl⟩ := List.mem_map.1 hy; trivial), List.any_map]
  have : ((fun y => Lit.sameKey y (.int .i64 x)) ∘ fun x => Lit.int .i64 x) = fun y => x == y := by
    funext y
    simp only [Function.comp, Lit.sameKey]
    by_cases h : y = x
    · simp [h]
    · have h' : ¬ x = y := fun e => h e.symm
      simp [h, h']
  rw [this, List.contains_eq_any_beq]

/-- All cells but those of places and of the record itself are as they were. -/
structure Kt (w w' : World) : Prop where
  env : Env w w'
  size : w.heap.size ≤ w'.heap.size
  same : ∀ k cs t, Blk w k cs t → t ≠ 64 → t ≠ 67 → Blk w' k cs t
theorem Kt.of_below {w w' : World} (h : Below w.heap.size w w') : Kt w w' := ⟨Env.of_below h, h.size, fun k cs t hk _ _ => hk.below h hk.lt⟩
theorem Kt.trans {u v w : World} (h : Kt u v) (g : Kt v w) : Kt u w := ⟨h.env.trans g.env, Nat.le_trans h.size g.size, fun k cs t hk h1 h2 => g.same k cs t (h.same k cs t hk h1 h2) h1 h2⟩
theorem NodeAt.kt {wd : Int} {w w' : World} (hb : Kt w w') : ∀ {t : Tr} {b : Nat}, NodeAt wd w b t → NodeAt wd w' b t
  | .leaf k v, b, h => hb.same _ _ _ h (by decide) (by decide)
  | .fork p l r, b, h => by
    obtain ⟨bl, br, h, h1, h2⟩ := h
    exact ⟨bl, br, hb.same _ _ _ h (by decide) (by decide), NodeAt.kt hb h1, NodeAt.kt hb h2⟩
theorem TopAt.kt {wd : Int} {w w' : World} {v : Value} {o : Option Tr} (hb : Kt w w') (h : TopAt wd w v o) : TopAt wd w' v o := by
  cases o with
  | none => exact h
  | some t => obtain ⟨b, e, h⟩ := h; exact ⟨b, e, h.kt hb⟩
theorem map_same {w w' : World} {mb n : Nat} {D : DataW Unit} (h : w.ownsMap Tryd.prog 3 unitElem mb n D) (hk : w'.heap[mb]? = w.heap[mb]?) : w'.ownsMap Tryd.prog 3 unitElem mb n D := by
  obtain ⟨es, clock, hb, F, hs, hD⟩ := h
  exact ⟨es, clock, hk.trans hb, F, hs, hD⟩

structure FetAt (base : Nat) (w : World) (fb : Nat) (wd root : Int) (pt : PT) (o : Option Tr) (bar : List Int) (q : Option Addr) (mb : Nat) : Prop where
  k : Blk w fb #[.int .i64 wd, .int .u64 root, .pointer pt.at, .int .i64 wd, .pointer q, .map (some mb)] 67
  pl : PlAt w none pt
  nd : pt.bs.Nodup
  tr : TopAt wd w (.pointer q) o
  gd : Good o
  m : w.ownsMap Tryd.prog 3 unitElem mb bar.length (barD bar)
  lo : base ≤ fb ∧ base ≤ mb
  lp : ∀ b ∈ pt.bs, base ≤ b
section
variable {base : Nat} {w w' : World} {fb : Nat} {wd root : Int} {pt : PT} {o : Option Tr} {bar : List Int} {q : Option Addr} {mb : Nat}
theorem FetAt.mlt (h : FetAt base w fb wd root pt o bar q mb) : mb < w.heap.size := by
  obtain ⟨es, clock, hb, _⟩ := h.m
  exact (Array.getElem?_eq_some_iff.1 hb).1
theorem FetAt.below (h : FetAt base w fb wd root pt o bar q mb) (hb : Below w.heap.size w w') : FetAt base w' fb wd root pt o bar q mb :=
  ⟨h.k.below hb h.k.lt, h.pl.below hb, h.nd, TopAt.below hb h.tr, h.gd, map_same h.m (hb.block mb h.mlt), h.lo, h.lp⟩
theorem FetAt.places (h : FetAt base w fb wd root pt o bar q mb) : ∀ k ∈ fb :: pt.bs, ∃ cs t, Blk w k cs t ∧ (t = 64 ∨ t = 67) := by
  have hall : ∀ (t : PT) (up : Option Addr), PlAt w up t → ∀ k ∈ t.bs, ∃ cs, Blk w k cs 64 := by
    intro t
    induction t with
    | no => intro up _ k hk; cases hk
    | is b d l r ihl ihr =>
      intro up hp k hk
      rcases List.mem_cons.1 hk with e | e
      · exact ⟨_, e ▸ hp.1⟩
      · rcases List.mem_append.1 e with q | q
        · exact ihl _ hp.2.1 k q
        · exact ihr _ hp.2.2 k q
  intro k hk
  rcases List.mem_cons.1 hk with e | e
  · exact ⟨_, _, e ▸ h.k, .inr rfl⟩
  · obtain ⟨cs, hc⟩ := hall pt _ h.pl k e
    exact ⟨cs, _, hc, .inl rfl⟩
theorem FetAt.kt (h : FetAt base w fb wd root pt o bar q mb) (hs : Sv (fb :: pt.bs) w w') : Kt w w' :=
  ⟨hs.env, hs.size, fun k cs t hk h1 h2 => hs.blk hk fun hm => by
    obtain ⟨cs', t', hk', ht⟩ := h.places k hm
    have e := hk.symm.trans hk'
    simp at e
    rcases ht with e2 | e2
    · exact h1 (e.2.trans e2)
    · exact h2 (e.2.trans e2)⟩
theorem FetAt.old (h : FetAt base w fb wd root pt o bar q mb) (hB : base ≤ w.heap.size) (hs : Sv (fb :: pt.bs) w w') : Below base w w' :=
  ⟨hs.env.1, hs.env.2.1, hs.env.2.2, hs.size, fun k hb => hs.same k (by omega) fun hm => by
    rcases List.mem_cons.1 hm with e | e
    · have := h.lo.1; omega
    · have := h.lp k e; omega⟩
/-- The places are others. -/
theorem FetAt.turn {pt' : PT} (h : FetAt base w fb wd root pt o bar q mb) (hs : Sv (fb :: pt.bs) w w') (k' : Blk w' fb #[.int .i64 wd, .int .u64 root, .pointer pt'.at, .int .i64 wd, .pointer q, .map (some mb)] 67) (pl' : PlAt w' none pt') (nd' : pt'.bs.Nodup) (lp' : ∀ b ∈ pt'.bs, base ≤ b) : FetAt base w' fb wd root pt' o bar q mb :=
  ⟨k', pl', nd', h.tr.kt (h.kt hs), h.gd, map_same h.m (hs.same mb h.mlt fun hm => by
    obtain ⟨cs, t, hk, _⟩ := h.places mb hm
    obtain ⟨es, clock, hb, _⟩ := h.m
    cases hk.symm.trans hb), h.lo, lp'⟩
/-- The tree is another one. -/
theorem FetAt.tree {q' : Option Addr} {o' : Option Tr} (h : FetAt base w fb wd root pt o bar q mb) (ht : TopAt wd w (.pointer q') o') (hg : Good o') : FetAt base ((w.setCell ⟨fb, 3, none⟩ (.int .i64 wd)).setCell ⟨fb, 4, none⟩ (.pointer q')) fb wd root pt o' bar q' mb ∧ Sv (fb :: pt.bs) w ((w.setCell ⟨fb, 3, none⟩ (.int .i64 wd)).setCell ⟨fb, 4, none⟩ (.pointer q')) := by
  have O : Only fb w ((w.setCell ⟨fb, 3, none⟩ (.int .i64 wd)).setCell ⟨fb, 4, none⟩ (.pointer q')) := ((Only.refl fb w).set 3 _).set 4 _
  have S : Sv (fb :: pt.bs) w ((w.setCell ⟨fb, 3, none⟩ (.int .i64 wd)).setCell ⟨fb, 4, none⟩ (.pointer q')) := Sv.of_only (List.mem_cons_self ..) O
  have k' := (h.k.set 3 (.int .i64 wd)).set 4 (.pointer q')
  have hne : mb ≠ fb := fun e => by
    obtain ⟨es, clock, hb, _⟩ := h.m
    rw [e] at hb
    have := h.k.symm.trans hb
    cases this
  have hfp : fb ∉ pt.bs := fun hm => by
    have hall : ∀ (t : PT) (up : Option Addr), PlAt w up t → ∀ k ∈ t.bs, ∃ cs, Blk w k cs 64 := by
      intro t
      induction t with
      | no => intro up _ k hk; cases hk
      | is b d l r ihl ihr =>
        intro up hp k hk
        rcases List.mem_cons.1 hk with e | e
        · exact ⟨_, e ▸ hp.1⟩
        · rcases List.mem_append.1 e with q | q
          · exact ihl _ hp.2.1 k q
          · exact ihr _ hp.2.2 k q
    obtain ⟨cs, hc⟩ := hall pt _ h.pl fb hm
    have := hc.symm.trans h.k
    simp at this
  exact ⟨⟨k', h.pl.only (fun k hk => O.same k (h.pl.lt k hk) fun e => hfp (e ▸ hk)), h.nd, ht.kt (h.kt S), hg, map_same h.m (O.same mb h.mlt hne), h.lo, h.lp⟩, S⟩
/-- One more is barred. -/
theorem FetAt.bars {x : Int} (h : FetAt base w fb wd root pt o bar q mb) (hg : w.grownBy w' (some mb)) (hm : w'.ownsMap Tryd.prog 3 unitElem mb (bar.length + 1) ((barD bar).put (.int .i64 x) (.agg []))) : FetAt base w' fb wd root pt o (bar ++ [x]) q mb ∧ Kt w w' := by
  have hk : ∀ k cs t, Blk w k cs t → Blk w' k cs t := fun k cs t hk => hk.grown hg fun e => by
    injection e with e
    subst e
    obtain ⟨es, clock, hb, _⟩ := h.m
    have := hk.symm.trans hb
    cases this
  have K : Kt w w' := ⟨⟨hg.os, hg.tape, hg.output⟩, hg.size, fun k cs t q _ _ => hk k cs t q⟩
  refine ⟨⟨hk _ _ _ h.k, h.pl.keep (fun k cs q => hk _ _ _ q), h.nd, h.tr.kt K, h.gd, ?_, h.lo, h.lp⟩, K⟩
  rw [barD_snoc, List.length_append, List.length_singleton]
  exact hm
end
end Go.Proofs.YtemlbcagkjmjgaaDoor
