/- What Put makes: the answer's list; a good tree stays one. -/
import Derived.Test.YtmhllihedejehaaGreatTPut3
import Derived.Test.YtmhllihedejehaaGreatFEnd
import Derived.Test.YtmhllihedejehaaGreatFFits
import Derived.Maps.OwnSet

namespace Go.Proofs.YtmhllihedejehaaGreat
open Go.RowKit
set_option linter.unusedVariables false
set_option linter.unusedSimpArgs false

/-- A tree as Put makes them. -/
structure Good (o : Option Tr) : Prop where
  wf : wfO o
  placed : ∀ t, o = some t → t.placed
  keys : ∀ x ∈ itemsO o, x.1.length ≤ 32 ∧ x.2.length ≤ 4096 ∧ x.2 ≠ []

theorem Good.none : Good none := ⟨trivial, (fun _ h => by cases h), fun x hx => by simp [itemsO] at hx⟩
theorem Good.sorted {o : Option Tr} (h : Good o) : Sorted (itemsO o) := by
  cases o with
  | none => exact List.Pairwise.nil
  | some t => exact t.sorted h.wf

theorem bit_far (k : Key) (p : Nat) (hk : k.length ≤ 32) (hp : 288 ≤ p) : bitP k p = 0 := by
  unfold bitP
  rw [List.getElem?_eq_none (by omega)]

/-- What Get finds. -/
theorem getO_mem {o : Option Tr} (h : Good o) (key v : Key) (hk : (key, v) ∈ itemsO o) : getO key o = v := by
  cases o with
  | none => simp [itemsO] at hk
  | some t => simp only [getO, Tr.find_key t h.wf key v hk, if_true]
theorem getO_some {o : Option Tr} (h : Good o) (key : Key) (hne : getO key o ≠ []) : (key, getO key o) ∈ itemsO o := by
  cases o with
  | none => exact (hne rfl).elim
  | some t =>
    simp only [getO] at hne ⊢
    by_cases hf : (t.find key).1 = key
    · rw [if_pos hf] at hne ⊢
      have := t.find_mem key
      have e : t.find key = (key, (t.find key).2) := Prod.ext hf rfl
      rw [e] at this
      exact this
    · rw [if_neg hf] at hne; exact (hne rfl).elim

theorem putO_spec (key value : Key) (o : Option Tr) (h : Good o) (hk : key.length ≤ 32) (hv : value.length ≤ 4096) : Good (putO key value o) ∧ itemsO (putO key value o) = putGo key value (value == []) (itemsO o) := by
  unfold putO
  by_cases he : getO key o = value
  · rw [if_pos he]
    refine ⟨h, ?_⟩
    by_cases hz : value = []
    · have : (value == []) = true := by simp [hz]
      rw [this, putGo_done]
      refine (del_off fun x hx e => ?_).symm
      obtain ⟨k, v⟩ := x
      simp only at e
      subst e
      have := getO_mem h k v hx
      rw [he, hz] at this
      exact (h.keys _ hx).2.2 this.symm
    · have : (value == []) = false := by simp [hz]
      rw [this]
      obtain ⟨s1, s2⟩ := putGo_spec key value (itemsO o) h.sorted
      refine sorted_uniq _ _ h.sorted s1 fun x => ?_
      rw [s2]
      have hm := getO_some h key (by rw [he]; exact hz)
      rw [he] at hm
      constructor
      · intro hx
        by_cases hxk : x.1 = key
        · left
          obtain ⟨k, v⟩ := x
          simp only at hxk
          subst hxk
          have := getO_mem h k v hx
          rw [he] at this
          rw [this]
        · exact .inr ⟨hx, hxk⟩
      · rintro (rfl | ⟨hx, _⟩)
        · exact hm
        · exact hx
  · rw [if_neg he]
    by_cases hz : value = []
    · rw [if_pos hz]
      have hb : (value == []) = true := by simp [hz]
      rw [hb, putGo_done]
      cases o with
      | none => exact (he (by rw [hz]; rfl)).elim
      | some t =>
        have hm := getO_some h key (by rw [hz] at he; exact he)
        obtain ⟨e1, e2⟩ := t.without_spec h.wf key _ hm
        refine ⟨⟨e2, fun u hu => t.placed_without key (h.placed t rfl) u hu, fun x hx => ?_⟩, e1⟩
        rw [e1] at hx
        exact h.keys x (mem_del.1 hx).1
    · rw [if_neg hz]
      have hb : (value == []) = false := by simp [hz]
      rw [hb]
      cases o with
      | none =>
        refine ⟨⟨trivial, (fun u hu => by cases hu; trivial), fun x hx => ?_⟩, by simp [itemsO, Tr.items, putGo]⟩
        simp only [itemsO, Tr.items, List.mem_singleton] at hx
        rw [hx]
        exact ⟨hk, hv, hz⟩
      | some t =>
        have hfk := (h.keys _ (t.find_mem key)).1
        have hparts : Parts key (placeOf key t) t := by
          unfold placeOf
          by_cases hf : (t.find key).1 = key
          · rw [if_pos hf]
            refine .inr ⟨hf, fun p ⟨x, hx, y, hy, hn⟩ => ?_⟩
            rcases Nat.lt_or_ge p 288 with c | c
            · exact c
            · exact (hn (by rw [bit_far x.1 p (h.keys x hx).1 c, bit_far y.1 p (h.keys y hy).1 c])).elim
          · rw [if_neg hf]
            exact .inl (keyPart_spec key (t.find key).1 fun e => hf e.symm)
        obtain ⟨w1, w2⟩ := t.with_spec key value (placeOf key t) h.wf hparts
        obtain ⟨s1, s2⟩ := putGo_spec key value (itemsO (some t)) h.sorted
        have hle := placeOf_le key t hk hfk
        refine ⟨⟨w1, (fun u hu => by cases hu; exact t.placed_with key value _ (by omega) (h.placed t rfl)), fun x hx => ?_⟩, ?_⟩
        · rcases (w2 x).1 hx with rfl | ⟨hx, _⟩
          · exact ⟨hk, hv, hz⟩
          · exact h.keys x hx
        · exact sorted_uniq _ _ (Tr.sorted _ w1) s1 fun x => by rw [s2]; exact w2 x

/-- Put, of a key and a value that are not too long. -/
theorem put_any (wd : Int) (q : Option Addr) (o : Option Tr) (key value : Key) (w : World) (hw : okW wd) (hk : key.length ≤ 32) (hv : value.length ≤ 4096) (g : Good o) (h : TopAt wd w (.pointer q) o) :
    Calls Tryz.prog 23 #[.agg #[.int .i64 wd, .pointer q], .string (str key), .string (str value)] w fun e w' => ∃ q', e = .returned (.tuple #[.agg #[.int .i64 wd, .pointer q'], .int .i64 0]) ∧ TopAt wd w' (.pointer q') (putO key value o) ∧ Below w.heap.size w w' := by
  unfold putO
  by_cases he : getO key o = value
  · rw [if_pos he]
    exact (put_keep wd q o key value w hk hv g.placed h he).mono fun e w' ⟨h1, h2⟩ => ⟨q, h1, TopAt.below h2 h, h2⟩
  · rw [if_neg he]
    by_cases hz : value = []
    · rw [if_pos hz]
      subst hz
      cases o with
      | none => exact (he rfl).elim
      | some t =>
        obtain ⟨b, e, hn⟩ := h
        have e : q = some ⟨b, 0, none⟩ := by injection e
        subst e
        exact put_without wd b t key w hw hk (g.placed t rfl) hn he
    · rw [if_neg hz]
      cases o with
      | none =>
        have e : q = none := by have h : Value.pointer q = .pointer none := h; injection h
        subst e
        exact put_first wd key value w hw hk hv hz
      | some t =>
        obtain ⟨b, e, hn⟩ := h
        have e : q = some ⟨b, 0, none⟩ := by injection e
        subst e
        exact put_with wd b t key value w hw hk hv hz (g.placed t rfl) (g.keys _ (t.find_mem key)).1 hn he

/-- Two good trees with the same in them are one. -/
theorem Good.uniq {o u : Option Tr} (h : Good o) (g : Good u) (e : itemsO o = itemsO u) : o = u := by
  cases o with
  | none =>
    cases u with
    | none => rfl
    | some t => obtain ⟨x, hx⟩ := t.any; have e : [] = t.items := e; rw [← e] at hx; simp at hx
  | some t =>
    cases u with
    | none => obtain ⟨x, hx⟩ := t.any; have e : t.items = [] := e; rw [e] at hx; simp at hx
    | some v => rw [Tr.uniq t v h.wf g.wf e]

/-- The digest of a tree. -/
def rootP (wd : Int) : Option Tr → Int
  | none => ofP wd 5 []
  | some t => ofP wd 5 [str (be (t.dig wd) 8)]
end Go.Proofs.YtmhllihedejehaaGreat

namespace Go.Proofs.YtmhllihedejehaaGreat
open Go.RowKit Go.Maps
set_option linter.unusedVariables false
set_option linter.unusedSimpArgs false

theorem lawInt : Keyed Tryz.prog 3 := int_keyed Tryz.underlying3
theorem zeroUnit (w : World) : (zeroValue 85).run Tryz.prog w = .ok (.agg #[]) w := by kernel_rfl
/-- Those who are barred. -/
def barD (l : List Int) : DataW Unit := setOf (.agg []) (l.map fun x => Lit.int .i64 x)
theorem barD_snoc (l : List Int) (x : Int) : barD (l ++ [x]) = (barD l).put (.int .i64 x) (.agg []) := by
  unfold barD
  rw [List.map_append]
  exact setOf_snoc _ _ _
theorem bar_has (l : List Int) (x : Int) : Maps.has (barD l) (.int .i64 x) = l.contains x := by
  unfold barD
  rw [has_setOf _ _ _ (fun y hy => by obtain ⟨z, _, rfl⟩ := List.mem_map.1 hy; trivial), List.any_map]
  have : ((fun y => Lit.sameKey y (.int .i64 x)) ∘ fun x => Lit.int .i64 x) = fun y => x == y := by
    funext y
    simp only [Function.comp, Lit.sameKey]
    by_cases h : y = x
    · simp [h]
    · have h' : ¬ x = y := fun e => h e.symm
      simp [h, h']
  rw [this, List.contains_eq_any_beq]

/-- All cells but those of places and of the record itself are as they were. -/
structure Kt (w w' : World) : Prop where
  env : Env w w'
  size : w.heap.size ≤ w'.heap.size
  same : ∀ k cs t, Blk w k cs t → t ≠ 71 → t ≠ 74 → Blk w' k cs t
  str : ∀ b off s, w.cell? ⟨b, off, none⟩ = some (.string s) → w'.cell? ⟨b, off, none⟩ = some (.string s)
theorem Kt.of_below {w w' : World} (h : Below w.heap.size w w') : Kt w w' := ⟨Env.of_below h, h.size, fun k cs t hk _ _ => hk.below h hk.lt, fun b off s q => (h.cell (World.block_lt_of_cell? w _ q)).trans q⟩
theorem Kt.trans {u v w : World} (h : Kt u v) (g : Kt v w) : Kt u w := ⟨h.env.trans g.env, Nat.le_trans h.size g.size, fun k cs t hk h1 h2 => g.same k cs t (h.same k cs t hk h1 h2) h1 h2, fun b off s q => g.str b off s (h.str b off s q)⟩
theorem NodeAt.kt {wd : Int} {w w' : World} (hb : Kt w w') : ∀ {t : Tr} {b : Nat}, NodeAt wd w b t → NodeAt wd w' b t
  | .leaf k v, b, h => hb.same _ _ _ h (by decide) (by decide)
  | .fork p l r, b, h => by
    obtain ⟨bl, br, h, h1, h2⟩ := h
    exact ⟨bl, br, hb.same _ _ _ h (by decide) (by decide), NodeAt.kt hb h1, NodeAt.kt hb h2⟩
theorem TopAt.kt {wd : Int} {w w' : World} {v : Value} {o : Option Tr} (hb : Kt w w') (h : TopAt wd w v o) : TopAt wd w' v o := by
  cases o with
  | none => exact h
  | some t => obtain ⟨b, e, h⟩ := h; exact ⟨b, e, h.kt hb⟩
theorem map_same {w w' : World} {mb n : Nat} {D : DataW Unit} (h : w.ownsMap Tryz.prog 3 unitElem mb n D) (hk : w'.heap[mb]? = w.heap[mb]?) : w'.ownsMap Tryz.prog 3 unitElem mb n D := by
  obtain ⟨es, clock, hb, F, hs, hD⟩ := h
  exact ⟨es, clock, hk.trans hb, F, hs, hD⟩

structure FetAt (base : Nat) (w : World) (fb : Nat) (wd root : Int) (pt : PT) (o : Option Tr) (bar : List Int) (q : Option Addr) (mb : Nat) : Prop where
  k : Blk w fb #[.int .i64 wd, .int .u64 root, .pointer pt.at, .int .i64 wd, .pointer q, .map (some mb)] 74
  pl : PlAt w none pt
  nd : pt.bs.Nodup
  tr : TopAt wd w (.pointer q) o
  gd : Good o
  m : w.ownsMap Tryz.prog 3 unitElem mb bar.length (barD bar)
  lo : base ≤ fb ∧ base ≤ mb
  lp : ∀ b ∈ pt.bs, base ≤ b
section
variable {base : Nat} {w w' : World} {fb : Nat} {wd root : Int} {pt : PT} {o : Option Tr} {bar : List Int} {q : Option Addr} {mb : Nat}
theorem FetAt.mlt (h : FetAt base w fb wd root pt o bar q mb) : mb < w.heap.size := by
  obtain ⟨es, clock, hb, _⟩ := h.m
  exact (Array.getElem?_eq_some_iff.1 hb).1
theorem FetAt.below (h : FetAt base w fb wd root pt o bar q mb) (hb : Below w.heap.size w w') : FetAt base w' fb wd root pt o bar q mb :=
  ⟨h.k.below hb h.k.lt, h.pl.below hb, h.nd, TopAt.below hb h.tr, h.gd, map_same h.m (hb.block mb h.mlt), h.lo, h.lp⟩
theorem FetAt.places (h : FetAt base w fb wd root pt o bar q mb) : ∀ k ∈ fb :: pt.bs, ∃ cs t, Blk w k cs t ∧ (t = 71 ∨ t = 74) := by
  have hall : ∀ (t : PT) (up : Option Addr), PlAt w up t → ∀ k ∈ t.bs, ∃ cs, Blk w k cs 71 := by
    intro t
    induction t with
    | no => intro up _ k hk; cases hk
    | is b d l r ihl ihr =>
      intro up hp k hk
      rcases List.mem_cons.1 hk with e | e
      · exact ⟨_, e ▸ hp.1⟩
      · rcases List.mem_append.1 e with q | q
        · exact ihl _ hp.2.1 k q
        · exact ihr _ hp.2.2 k q
  intro k hk
  rcases List.mem_cons.1 hk with e | e
  · exact ⟨_, _, e ▸ h.k, .inr rfl⟩
  · obtain ⟨cs, hc⟩ := hall pt _ h.pl k e
    exact ⟨cs, _, hc, .inl rfl⟩
/-- There is no text in them. -/
theorem FetAt.nostr (h : FetAt base w fb wd root pt o bar q mb) : ∀ k ∈ fb :: pt.bs, ∀ off s, w.cell? ⟨k, off, none⟩ ≠ some (.string s) := by
  have hall : ∀ (t : PT) (up : Option Addr), PlAt w up t → ∀ k ∈ t.bs, ∀ off s, w.cell? ⟨k, off, none⟩ ≠ some (.string s) := by
    intro t
    induction t with
    | no => intro up _ k hk; cases hk
    | is b d l r ihl ihr =>
      intro up hp k hk
      rcases List.mem_cons.1 hk with e | e
      · subst e
        intro off s q
        rw [hp.1.cell off] at q
        rcases off with _ | _ | _ | _ | off <;> simp at q
      · rcases List.mem_append.1 e with q | q
        · exact ihl _ hp.2.1 k q
        · exact ihr _ hp.2.2 k q
  intro k hk
  rcases List.mem_cons.1 hk with e | e
  · subst e
    intro off s q
    rw [h.k.cell off] at q
    rcases off with _ | _ | _ | _ | _ | _ | off <;> simp at q
  · exact hall pt _ h.pl k e
theorem FetAt.kt (h : FetAt base w fb wd root pt o bar q mb) (hs : Sv (fb :: pt.bs) w w') : Kt w w' :=
  ⟨hs.env, hs.size, fun k cs t hk h1 h2 => hs.blk hk fun hm => by
    obtain ⟨cs', t', hk', ht⟩ := h.places k hm
    have e := hk.symm.trans hk'
    simp at e
    rcases ht with e2 | e2
    · exact h1 (e.2.trans e2)
    · exact h2 (e.2.trans e2), fun b off s q => (World.cell?_of_block (w := w) (a := ⟨b, off, none⟩) (hs.same b (World.block_lt_of_cell? w _ q) fun hm => h.nostr b hm off s q)).trans q⟩
theorem FetAt.old (h : FetAt base w fb wd root pt o bar q mb) (hB : base ≤ w.heap.size) (hs : Sv (fb :: pt.bs) w w') : Below base w w' :=
  ⟨hs.env.1, hs.env.2.1, hs.env.2.2, hs.size, fun k hb => hs.same k (by omega) fun hm => by
    rcases List.mem_cons.1 hm with e | e
    · have := h.lo.1; omega
    · have := h.lp k e; omega⟩
/-- The places are others. -/
theorem FetAt.turn {pt' : PT} (h : FetAt base w fb wd root pt o bar q mb) (hs : Sv (fb :: pt.bs) w w') (k' : Blk w' fb #[.int .i64 wd, .int .u64 root, .pointer pt'.at, .int .i64 wd, .pointer q, .map (some mb)] 74) (pl' : PlAt w' none pt') (nd' : pt'.bs.Nodup) (lp' : ∀ b ∈ pt'.bs, base ≤ b) : FetAt base w' fb wd root pt' o bar q mb :=
  ⟨k', pl', nd', h.tr.kt (h.kt hs), h.gd, map_same h.m (hs.same mb h.mlt fun hm => by
    obtain ⟨cs, t, hk, _⟩ := h.places mb hm
    obtain ⟨es, clock, hb, _⟩ := h.m
    cases hk.symm.trans hb), h.lo, lp'⟩
/-- The tree is another one. -/
theorem FetAt.tree {q' : Option Addr} {o' : Option Tr} (h : FetAt base w fb wd root pt o bar q mb) (ht : TopAt wd w (.pointer q') o') (hg : Good o') : FetAt base ((w.setCell ⟨fb, 3, none⟩ (.int .i64 wd)).setCell ⟨fb, 4, none⟩ (.pointer q')) fb wd root pt o' bar q' mb ∧ Sv (fb :: pt.bs) w ((w.setCell ⟨fb, 3, none⟩ (.int .i64 wd)).setCell ⟨fb, 4, none⟩ (.pointer q')) := by
  have O : Only fb w ((w.setCell ⟨fb, 3, none⟩ (.int .i64 wd)).setCell ⟨fb, 4, none⟩ (.pointer q')) := ((Only.refl fb w).set 3 _).set 4 _
  have S : Sv (fb :: pt.bs) w ((w.setCell ⟨fb, 3, none⟩ (.int .i64 wd)).setCell ⟨fb, 4, none⟩ (.pointer q')) := Sv.of_only (List.mem_cons_self ..) O
  have k' := (h.k.set 3 (.int .i64 wd)).set 4 (.pointer q')
  have hne : mb ≠ fb := fun e => by
    obtain ⟨es, clock, hb, _⟩ := h.m
    rw [e] at hb
    have := h.k.symm.trans hb
    cases this
  have hfp : fb ∉ pt.bs := fun hm => by
    have hall : ∀ (t : PT) (up : Option Addr), PlAt w up t → ∀ k ∈ t.bs, ∃ cs, Blk w k cs 71 := by
      intro t
      induction t with
      | no => intro up _ k hk; cases hk
      | is b d l r ihl ihr =>
        intro up hp k hk
        rcases List.mem_cons.1 hk with e | e
        · exact ⟨_, e ▸ hp.1⟩
        · rcases List.mem_append.1 e with q | q
          · exact ihl _ hp.2.1 k q
          · exact ihr _ hp.2.2 k q
    obtain ⟨cs, hc⟩ := hall pt _ h.pl fb hm
    have := hc.symm.trans h.k
    simp at this
  exact ⟨⟨k', h.pl.only (fun k hk => O.same k (h.pl.lt k hk) fun e => hfp (e ▸ hk)), h.nd, ht.kt (h.kt S), hg, map_same h.m (O.same mb h.mlt hne), h.lo, h.lp⟩, S⟩
/-- One more is barred. -/
theorem FetAt.bars {x : Int} (h : FetAt base w fb wd root pt o bar q mb) (hg : w.grownBy w' (some mb)) (hm : w'.ownsMap Tryz.prog 3 unitElem mb (bar.length + 1) ((barD bar).put (.int .i64 x) (.agg []))) : FetAt base w' fb wd root pt o (bar ++ [x]) q mb ∧ Kt w w' := by
  have hk : ∀ k cs t, Blk w k cs t → Blk w' k cs t := fun k cs t hk => hk.grown hg fun e => by
    injection e with e
    subst e
    obtain ⟨es, clock, hb, _⟩ := h.m
    have := hk.symm.trans hb
    cases this
  have K : Kt w w' := ⟨⟨hg.os, hg.tape, hg.output⟩, hg.size, fun k cs t q _ _ => hk k cs t q, fun b off s q => (World.cell?_of_block (w := w) (a := ⟨b, off, none⟩) (hg.block b (World.block_lt_of_cell? w _ q) fun e => by
    injection e with e
    subst e
    obtain ⟨es, clock, hb, _⟩ := h.m
    simp [World.cell?, hb] at q)).trans q⟩
  refine ⟨⟨hk _ _ _ h.k, h.pl.keep (fun k cs q => hk _ _ _ q), h.nd, h.tr.kt K, h.gd, ?_, h.lo, h.lp⟩, K⟩
  rw [barD_snoc, List.length_append, List.length_singleton]
  exact hm
end
end Go.Proofs.YtmhllihedejehaaGreat
