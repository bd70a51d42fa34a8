/- Wants: the ways of the nodes that are wanted, the first ones. -/
import Derived.Test.YtmhllihedejehaaGreatFEach2
import Derived.Test.YtmhllihedejehaaGreatM17
import Derived.RangeFuncBox
import Derived.Maps.AppendAt
namespace Go.Proofs.YtmhllihedejehaaGreat
open Go.RowKit Go.Shelf
attribute [local go_sem] Oper.semAt_some
set_option linter.unusedVariables false
set_option linter.unusedSimpArgs false

set_option maxRecDepth 100000 in
set_option maxHeartbeats 4000000 in
theorem ways_f (base lb : Nat) (J Jx : List Key → World → Prop) (hJ : ∀ s A B, J s A → Gn base A B → J s B)
    (hY : ∀ m pre way W, J pre W → YieldAt Fence.wide m Tryz.prog lb #[.string (str way)] W fun e W' =>
      (e = .returned (.bool true) ∧ J (pre ++ [way]) W' ∧ Yk W W') ∨ (e = .returned (.bool false) ∧ Jx (pre ++ [way]) W')) (pt : PT) (n fb : Nat) (c0 c1 c3 c4 c5 : Value) (W : World)
    (hf : Blk W fb #[c0, c1, .pointer pt.at, c3, c4, c5] 74) (hp : PlAt W none pt) (hbs : base ≤ W.heap.size) (hj : J [] W) (hd : pt.depth ≤ 100000000) :
    CallsIn Fence.wide n Tryz.prog 28 #[.pointer (some ⟨fb, 0, none⟩), .func (.yield lb) #[] #[]] W fun e W' => (∃ v, e = .returned v) ∧ (J (pt.ways []) W' ∨ ∃ q, q <+: pt.ways [] ∧ Jx q W') := by
  have hdd : ∀ k : Nat, (Fence.wide.depth.isSome = true → 1 ≤ k) := fun k h => by cases h
  have t2 := (hf.cell 2).trans rfl
  have zf := hf.lt
  clear hf
  refine callsIn_of_wp Tryz.func28 rfl trivial ?_ rfl
  simp only [Tryz.ntmps28, List.size_toArray, List.length_cons, List.length_nil, Nat.reduceAdd, Nat.reduceSub, Array.replicate_succ, Array.replicate_zero, List.push_toArray, List.append_toArray, List.nil_append, List.cons_append]
  cases pt with
  | no =>
    have e0 : PT.no.at = none := rfl
    rw [e0] at t2
    gi_wp2
    go_end0
    exact ⟨⟨_, rfl⟩, .inl hj⟩
  | is b d l r =>
    have e0 : (PT.is b d l r).at = some ⟨b, 0, none⟩ := rfl
    have I1 := each_f base lb J Jx hJ hY (.is b d l r) (n - 1) none (.slice none 0 0) [] [] W rfl hp ⟨rfl, .inl ⟨rfl, rfl⟩⟩ hbs hj (by simpa using hd)
    rw [e0] at t2 I1
    clear hp
    gi_wp2_with ((try refine ⟨trivial, ?_⟩); (try refine ⟨hdd _, ?_⟩); gi_at_call 54; refine I1.mono ?_; clear I1; rintro e W2 (⟨rfl, hJ2, hk2, hw2⟩ | ⟨rfl, q, hq, hx2⟩))
    · go_end0
      exact ⟨⟨_, rfl⟩, .inl hJ2⟩
    · go_end0
      exact ⟨⟨_, rfl⟩, .inr ⟨q, hq, hx2⟩⟩

/-- A range over a method's value: the record, the call, what is owed behind it. -/
theorem wpIn_range_m {P : Program} {n : Nat} {g : Operand} {ps : Array Tmp} {assign body : Code} {Q : Exit → Act → World → Prop} {a : Act} {w : World} {gf : Nat} {fp : Value}
    (hg : a.eval g = .func (.func gf) #[fp] #[]) (eg : ∀ args w, (callFunc gf args).run P w = .ok (.enter gf args) w)
    (H : ∀ (fn : FuncId) (rc : LoopState → Option Code → Loop), (rc = fun st pe => { state := st, pending := pe, fn := fn, tmps := a.tmps, params := ps, assign := assign, body := body, defers := w.heap.size }) →
      CallsIn Fence.wide (n - 1) P gf #[fp, .func (.yield (w.heap.size + 1)) #[] #[]] ((w.alloc (.deferred (some []))).alloc (.loop (rc .ready none))) (rangePost Fence.wide n P (w.heap.size + 1) Q { a with defers := { target := .collected w.heap.size, args := #[] } :: a.defers })) :
    (Code.rangeFunc g ps assign body).wpIn Fence.wide n P Q a w := by
  refine wpIn_rangeFunc fun fn hfn => ?_
  rw [show Fence.wide.round = none from rfl]
  obtain ⟨rc, hrc⟩ : ∃ rc : LoopState → Option Code → Loop, rc = fun st pe => { state := st, pending := pe, fn := fn, tmps := a.tmps, params := ps, assign := assign, body := body, defers := w.heap.size } := ⟨_, rfl⟩
  have hH := H fn rc hrc
  refine ⟨w.heap.size + 1, [{ target := .collected w.heap.size, args := #[] }], (w.alloc (.deferred (some []))).alloc (.loop (rc .ready none)), { target := .fn (.func gf) #[], args := #[fp, .func (.yield (w.heap.size + 1)) #[] #[]] }, (w.alloc (.deferred (some []))).alloc (.loop (rc .ready none)), gf, #[fp, .func (.yield (w.heap.size + 1)) #[] #[]], (w.alloc (.deferred (some []))).alloc (.loop (rc .ready none)), ?_, ?_, fun _ _ => trivial, ?_, fun h => (by cases h), hH⟩
  · rw [hrc]; exact run_enterLoop_outer _ _ _ _ _
  · simp only [resolve, hg]
    simp [go_sem]
  · simp [invoke, go_sem, eg]

theorem infoStr : (Tryz.prog.info? 9).map (fun i => (i.zero, i.size, i.bytes)) = some (some (.string ⟨#[]⟩), 1, 16) := by kernel_rfl
def strs (l : List Key) : List Value := l.map fun k => Value.string (str k)

theorem row_put {W : World} {base : Nat} {e : TypeId} {size : Nat} {v : Value} {k : Nat} {xs : List Value} (h : W.ownsRow base e size v k xs) {l : Nat} {r : Loop} (hl : W.heap[l]? = some (.loop r)) (o' : Obj) : (W.putObj l o').ownsRow base e size v k xs := ownsRow_putObj h o' hl rfl
theorem box_put {W : World} {B : Nat} {t : TypeId} {v : Value} (h : Boxed W B t v) {l : Nat} {r : Loop} (hl : W.heap[l]? = some (.loop r)) (o' : Obj) : Boxed (W.putObj l o') B t v := by
  have hne : B ≠ l := fun e => by rw [e] at h; cases h.symm.trans hl
  exact (World.putObj_heap_other hne).trans h
theorem yk_put {W : World} {l : Nat} {r : Loop} (hl : W.heap[l]? = some (.loop r)) (o' : Obj) : Yk W (W.putObj l o') := by
  refine ⟨by simp, fun k cs t fz h0 _ => ?_⟩
  have hne : k ≠ l := fun e => by rw [e, hl] at h0; cases h0
  exact (World.putObj_heap_other hne).trans h0
theorem Yk.trans {A B C : World} (h : Yk A B) (g : Yk B C) : Yk A C := ⟨Nat.le_trans h.size g.size, fun k cs t fz h0 hn => g.same k cs t fz (h.same k cs t fz h0 hn) hn⟩
theorem below_put {B : Nat} {w W : World} (h : Below B w W) {l : Nat} (hl : B ≤ l) (o' : Obj) : Below B w (W.putObj l o') := h.trans ⟨rfl, rfl, rfl, by simp, fun k hk => World.putObj_heap_other (by omega)⟩

/-- The loop over the ways, as long as it goes on. -/
structure WJ (w w1 : World) (rc : LoopState → Option Code → Loop) (m : Int) (pre : List Key) (W : World) : Prop where
  v : ∃ v, Boxed W (w.heap.size + 1) 44 v ∧ W.ownsRow w.heap.size 9 1 v pre.length (strs pre)
  mb : Boxed W w.heap.size 3 (.int .i64 m)
  lp : W.heap[w1.heap.size + 1]? = some (.loop (rc .ready none))
  df : W.heap[w1.heap.size]? = some (.deferred (some []))
  be : Below w.heap.size w W
  le : (pre.length : Int) ≤ m
/-- It has stopped. -/
structure WX (w w1 : World) (rc : LoopState → Option Code → Loop) (m : Int) (pre : List Key) (W : World) : Prop where
  v : ∃ v, Boxed W (w.heap.size + 1) 44 v ∧ W.ownsRow w.heap.size 9 1 v pre.dropLast.length (strs pre.dropLast)
  lp : W.heap[w1.heap.size + 1]? = some (.loop (rc .done (some (.exit 0))))
  df : W.heap[w1.heap.size]? = some (.deferred (some []))
  be : Below w.heap.size w W
  le : (pre.length : Int) = m + 1
theorem WJ.gn {w w1 : World} {rc : LoopState → Option Code → Loop} {m : Int} {pre : List Key} {A B : World} {base : Nat} (hb : w.heap.size ≤ base) (h : WJ w w1 rc m pre A) (g : Gn base A B) : WJ w w1 rc m pre B := by
  obtain ⟨v, hv, hr⟩ := h.v
  refine ⟨⟨v, g.same _ _ hv (fun cs fz e => by injection e with _ e; exact absurd e (by decide)), hr.1, ?_⟩, g.same _ _ h.mb (fun cs fz e => by injection e with _ e; exact absurd e (by decide)), g.same _ _ h.lp (fun cs fz e => by cases e), g.same _ _ h.df (fun cs fz e => by cases e), h.be.trans (g.below.mono hb), h.le⟩
  rcases hr.2 with q | ⟨gg, cap, cur, e, hbb, hg, r⟩
  · exact .inl q
  · exact .inr ⟨gg, cap, cur, e, hbb, g.same _ _ hg (fun cs fz e => by injection e with _ e; exact absurd e (by decide)), r⟩
theorem slice_of {W : World} {base : Nat} {e : TypeId} {size : Nat} {v : Value} {k : Nat} {xs : List Value} (h : W.ownsRow base e size v k xs) : ∃ sa sc, v = .slice sa k sc := by
  rcases h.2 with ⟨rfl, h0⟩ | ⟨g, cap, cur, rfl, _⟩
  · exact ⟨none, 0, by rw [h0]⟩
  · exact ⟨_, _, rfl⟩

set_option maxRecDepth 100000 in
set_option maxHeartbeats 8000000 in
theorem wants_any (fb : Nat) (c0 c1 c3 c4 c5 : Value) (pt : PT) (m : Int) (w : World) (hm : 0 ≤ m ∧ m ≤ 1000000) (hf : Blk w fb #[c0, c1, .pointer pt.at, c3, c4, c5] 74) (hp : PlAt w none pt) (hd : pt.depth ≤ 100000000) :
    Calls Tryz.prog 10 #[.pointer (some ⟨fb, 0, none⟩), .int .i64 m] w fun e W' => ∃ v, e = .returned v ∧ W'.ownsRow w.heap.size 9 1 v ((pt.ways []).take m.toNat).length (strs ((pt.ways []).take m.toNat)) ∧ Below w.heap.size w W' := by
  obtain ⟨i0, hi, hz0, hz1, hz2⟩ := info_parts infoStr
  have hmf : ∀ (fn : Fn) (first cap : Array Value) (w : World), (Instr.makeFunc fn first cap).run Tryz.prog w = .ok (.func fn first cap) w := fun _ _ _ _ => rfl
  refine (callsIn_wide (n := 5)).1 ?_
  refine callsIn_of_wp_marks Tryz.func10 rfl trivial ?_ rfl
  simp only [Tryz.ntmps10, List.size_toArray, List.length_cons, List.length_nil, Nat.reduceAdd, Nat.reduceSub, Array.replicate_succ, Array.replicate_zero, List.push_toArray, List.append_toArray, List.nil_append, List.cons_append]
  have hdd : ∀ k : Nat, (Fence.wide.depth.isSome = true → 1 ≤ k) := fun k h => by cases h
  have kt1 : Boxed ((w.alloc (.cells #[.int .i64 m] 3)).alloc (.cells #[.slice none 0 0] 44)) w.heap.size 3 (.int .i64 m) := (Boxed.new w 3 (.int .i64 m)).alloc _
  have ks1 : Boxed ((w.alloc (.cells #[.int .i64 m] 3)).alloc (.cells #[.slice none 0 0] 44)) (w.heap.size + 1) 44 (.slice none 0 0) := by
    have := Boxed.new (w.alloc (.cells #[.int .i64 m] 3)) 44 (.slice none 0 0)
    rw [World.size_alloc] at this
    exact this
  have bA : Below w.heap.size w ((w.alloc (.cells #[.int .i64 m] 3)).alloc (.cells #[.slice none 0 0] 44)) := ((Below.refl _ _).alloc (Nat.le_refl _) _).alloc (by simp) _
  have hsz : ((w.alloc (.cells #[.int .i64 m] 3)).alloc (.cells #[.slice none 0 0] 44)).heap.size = w.heap.size + 2 := by simp
  have hf1 := hf.below bA hf.lt
  have hp1 := hp.below bA
  clear hf hp
  gi_wp2
  generalize (w.alloc (.cells #[.int .i64 m] 3)).alloc (.cells #[.slice none 0 0] 44) = w1 at *
  refine wpIn_range_m (gf := 28) (fp := .pointer (some ⟨fb, 0, none⟩)) rfl (enters_of Tryz.func28 (by kernel_rfl) rfl) ?_
  intro fn rc hrc
  obtain ⟨W0, hW0⟩ : ∃ W0, (w1.alloc (.deferred (some []))).alloc (.loop (rc .ready none)) = W0 := ⟨_, rfl⟩
  have sW0 : W0.heap.size = w1.heap.size + 2 := by rw [← hW0]; simp
  have b0 : Below w1.heap.size w1 W0 := by rw [← hW0]; exact ((Below.refl _ _).alloc (Nat.le_refl _) _).alloc (by simp) _
  have J0 : WJ w w1 rc m [] W0 := by
    refine ⟨⟨_, ?_, World.ownsRow_nil _ _ _ _⟩, ?_, ?_, ?_, bA.trans (b0.mono bA.size), by simp; omega⟩
    · rw [← hW0]; exact (ks1.alloc _).alloc _
    · rw [← hW0]; exact (kt1.alloc _).alloc _
    · rw [← hW0]; have := World.alloc_heap_new (w1.alloc (.deferred (some []))) (.loop (rc .ready none)); rwa [World.size_alloc] at this
    · rw [← hW0]; exact (Below.heap_alloc _ _ _ (by simp)).trans (World.alloc_heap_new w1 _)
  have hf0 := hf1.below b0 hf1.lt
  have hp0 := hp1.below b0
  rw [hW0]
  clear hW0 hf1 hp1 ks1 kt1
  have hL1 : w.heap.size ≤ w1.heap.size := by omega
  refine (ways_f (w1.heap.size + 2) (w1.heap.size + 1) (WJ w w1 rc m) (WX w w1 rc m) (fun s A B h g => h.gn (by omega) g) ?_ pt 4 fb c0 c1 c3 c4 c5 W0 hf0 hp0 (by omega) J0 hd).mono ?_
  · intro k pre way W hj
    have hy := run_yield (P := Tryz.prog) (args := #[.string (str way)]) hj.lp (by rw [hrc]; rfl)
    have hlp := hj.lp
    rw [hrc] at hy
    refine ⟨fn, _, _, _, hy, roundIn_of_wpIn trivial ?_⟩
    have HRC : Hid (rc = _) := hrc
    have hrdy : (rc .ready none).state = .ready := by rw [hrc]
    have hend : ∀ (jp : Option Code) (st : LoopState), ({ ({ rc .ready none with state := .busy } : Loop) with state := st, pending := jp } : Loop) = rc st jp := fun jp st => by rw [hrc]
    have HSZ : Hid (w1.heap.size = w.heap.size + 2) := hsz
    have HEND : Hid (∀ (jp : Option Code) (st : LoopState), ({ ({ rc .ready none with state := .busy } : Loop) with state := st, pending := jp } : Loop) = rc st jp) := hend
    clear hy hrc hend hsz sW0
    gi_wp2
    refine ⟨_, run_beginRound hlp hrdy, ?_⟩
    have hsz := HSZ.out
    obtain ⟨rb, hrb⟩ : ∃ rb : Loop, { rc .ready none with state := .busy } = rb := ⟨_, rfl⟩
    rw [hrb]
    have hlt := (Array.getElem?_eq_some_iff.1 hlp).1
    have hlb : (W.putObj (w1.heap.size + 1) (.loop rb)).heap[w1.heap.size + 1]? = some (.loop rb) := World.putObj_heap_same hlt
    have hdb : (W.putObj (w1.heap.size + 1) (.loop rb)).heap[w1.heap.size]? = some (.deferred (some [])) := (World.putObj_heap_other (by omega)).trans hj.df
    have y0 := yk_put hlp (.loop rb)
    have be0 := below_put hj.be (l := w1.heap.size + 1) (by omega) (.loop rb)
    have mb0 := box_put hj.mb hlp (.loop rb)
    obtain ⟨v, hv, hr⟩ := hj.v
    have hv0 := box_put hv hlp (.loop rb)
    have hr0 := row_put hr hlp (.loop rb)
    have hle := hj.le
    clear hv hr hj hlp hsz
    generalize W.putObj (w1.heap.size + 1) (.loop rb) = Wb at *
    obtain ⟨sa, sc, rfl⟩ := slice_of hr0
    have cv := hv0.cell
    have cm := mb0.cell
    by_cases hstop : (pre.length : Int) = m
    · have hge : (pre.length : Int) ≥ m := by omega
      have HRB : Hid ({ rc .ready none with state := .busy } = rb) := hrb
      clear hrb hrdy
      gi_wp2
      have he := run_endRound (P := Tryz.prog) (some (.exit 0)) hlb
      rw [← HRB.out, HEND.out] at he
      have hlt2 := (Array.getElem?_eq_some_iff.1 hlb).1
      refine ⟨_, _, he, .inr ⟨rfl, ⟨⟨_, box_put hv0 hlb _, ?_⟩, World.putObj_heap_same hlt2, (World.putObj_heap_other (by omega)).trans hdb, below_put be0 (by have := HSZ.out; omega) _, by simp; omega⟩⟩⟩
      rw [List.dropLast_concat]
      exact row_put hr0 hlb _
    · have hge : ¬ (pre.length : Int) ≥ m := by omega
      have hsw : w.heap.size ≤ Wb.heap.size := be0.size
      obtain ⟨v', w', hrun, hown', hgrow, _, hat⟩ := run_append_own_at (P := Tryz.prog) (Wb.alloc (.cells #[.string (str way)] 9)) w.heap.size 44 44 9 i0 (.string ⟨#[]⟩) 1 16 Tryz.underlying44 hi hz0 hz1 hz2 rfl (by omega) _ _ _ (hr0.alloc _) ⟨Wb.heap.size, 0, none⟩ 1 1 [.string (str way)] rfl (fun j u hj => by
        cases j with
        | zero => simp at hj; subst hj; simp [Addr.add]
        | succ j => simp at hj) (fun u hu => by simp at hu; subst hu; rfl) (by unfold maxLen; omega) (by omega) (by simp; omega)
      have hv1 : Boxed w' (w.heap.size + 1) 44 (.slice sa pre.length sc) := (hv0.alloc _).kept hgrow (hv0.not_row (by decide) hr0)
      have cv1 := hv1.cell
      have fv1 := hv1.frozen
      have HX : Hid (w'.ownsRow w.heap.size 9 1 v' (pre.length + 1) (strs pre ++ [.string (str way)]) ∧ (Wb.alloc (.cells #[.string (str way)] 9)).grownBy w' (Value.ownBlock (.slice sa pre.length sc)) ∧ Wb.ownsRow w.heap.size 9 1 (.slice sa pre.length sc) pre.length (strs pre)) := ⟨hown', hgrow, hr0⟩
      obtain ⟨sb, scb, rfl⟩ := slice_of hown'
      have HRB : Hid ({ rc .ready none with state := .busy } = rb) := hrb
      clear hrb hrdy hown' hgrow hat hr0
      gi_wp2_with (gi_at_builtin; refine wpListIn_app_run (by kernel_rfl) _ _ 44 rfl _ _ (.slice sb (pre.length + 1) scb) w' rfl rfl hrun ?_)
      obtain ⟨hown', hgrow, hr0⟩ := HX.out
      have hkeep : ∀ (k : Nat) (o : Obj), Wb.heap[k]? = some o → (∀ cs fz, o ≠ .cells cs 9 fz) → k ≠ w.heap.size + 1 → (w'.setCell ⟨w.heap.size + 1, 0, none⟩ (.slice sb (pre.length + 1) scb)).heap[k]? = some o := by
        intro k o h0 hn hk
        have hlt0 := (Array.getElem?_eq_some_iff.1 h0).1
        rw [Below.heap_setCell _ _ _ k hk]
        refine (hgrow.block k (by simp; omega) (fun e => ?_)).trans ((Below.heap_alloc _ _ _ hlt0).trans h0)
        rcases hr0.2 with ⟨e1, _⟩ | ⟨g, cap, cur, e1, _, hg, _⟩
        · rw [e1] at e; cases e
        · rw [e1] at e
          have e2 : k = g := by simpa [Value.ownBlock] using e
          subst e2
          rw [hg] at h0
          injection h0 with h0
          exact hn _ _ h0.symm
      have hl3 := hkeep _ _ hlb (fun cs fz e => by cases e) (by have := HSZ.out; omega)
      have hd3 := hkeep _ _ hdb (fun cs fz e => by cases e) (by have := HSZ.out; omega)
      have mb3 : Boxed (w'.setCell ⟨w.heap.size + 1, 0, none⟩ (.slice sb (pre.length + 1) scb)) w.heap.size 3 (.int .i64 m) := hkeep _ _ mb0 (fun cs fz e => by injection e with _ e; exact absurd e (by decide)) (by omega)
      have hv3 := hv1.set (.slice sb (pre.length + 1) scb)
      have hr3 := hown'.kept (grownBy_setCell' w' (w.heap.size + 1) (.slice sb (pre.length + 1) scb)) (.inr (hv1.not_row (by decide) hown').symm)
      have be3 : Below w.heap.size w (w'.setCell ⟨w.heap.size + 1, 0, none⟩ (.slice sb (pre.length + 1) scb)) := ((be0.alloc hsw _).grown hgrow (by simp; omega) (fun j e => by
        rcases hr0.2 with ⟨e1, _⟩ | ⟨g, cap, cur, e1, hb, hg, _⟩
        · rw [e1] at e; cases e
        · rw [e1] at e
          have e2 : g = j := by simpa [Value.ownBlock] using e
          omega)).setCell (p := ⟨w.heap.size + 1, 0, none⟩) (by show w.heap.size ≤ w.heap.size + 1; omega) _
      have y3 : Yk Wb (w'.setCell ⟨w.heap.size + 1, 0, none⟩ (.slice sb (pre.length + 1) scb)) := ⟨by rw [size_setCell]; exact Nat.le_trans (by simp) hgrow.size, fun k cs t fz h0 ht => hkeep k _ h0 (fun cs' fz' e => by injection e with _ e; rcases ht with ht | ht <;> (rw [ht] at e; exact absurd e (by decide))) (fun e => by
        subst e
        have := h0.symm.trans hv0
        injection this with this
        injection this with _ this
        rcases ht with ht | ht <;> (rw [ht] at this; exact absurd this (by decide)))⟩
      have he := run_endRound (P := Tryz.prog) none hl3
      rw [← HRB.out, HEND.out] at he
      have hlt2 := (Array.getElem?_eq_some_iff.1 hl3).1
      refine ⟨_, _, he, .inl ⟨rfl, ⟨⟨_, box_put hv3 hl3 _, ?_⟩, box_put mb3 hl3 _, World.putObj_heap_same hlt2, (World.putObj_heap_other (by omega)).trans hd3, below_put be3 (by have := HSZ.out; omega) _, by simp; omega⟩, (y0.trans y3).trans (yk_put hl3 _)⟩⟩
      have e5 : strs (pre ++ [way]) = strs pre ++ [.string (str way)] := by simp [strs]
      have e6 : (pre ++ [way]).length = pre.length + 1 := by simp
      rw [e5, e6]
      exact row_put hr3 hl3 _
  · have HSZ : Hid (w1.heap.size = w.heap.size + 2) := hsz
    rintro e W2 ⟨⟨v, rfl⟩, (hj | ⟨q, hq, hx⟩)⟩
    · have he := run_endLoop (P := Tryz.prog) hj.lp (by rw [hrc]; simp)
      have hpd : (rc .ready none).pending = none := by rw [hrc]
      rw [hpd] at he
      obtain ⟨rx, he⟩ : ∃ rx : Obj, (Instr.endLoop (w1.heap.size + 1)).run Tryz.prog W2 = .ok (none) (W2.putObj (w1.heap.size + 1) rx) := ⟨_, he⟩
      refine ⟨none, _, he, ?_⟩
      obtain ⟨v2, hv2, hr2⟩ := hj.v
      have hv3 := box_put hv2 hj.lp rx
      have hr3 := row_put hr2 hj.lp rx
      have hd3 : (W2.putObj (w1.heap.size + 1) rx).heap[w1.heap.size]? = some (.deferred (some [])) := (World.putObj_heap_other (by omega)).trans hj.df
      have be3 := below_put hj.be (l := w1.heap.size + 1) (by omega) rx
      have hle := hj.le
      clear he hpd hv2 hr2 hj hrc hsz sW0 J0
      generalize W2.putObj (w1.heap.size + 1) rx = W3 at *
      have cv := hv3.cell
      gi_wp2
      refine ⟨by simp, .inl ⟨_, _, rfl, run_takeDeferred hd3, ?_⟩⟩
      have e5 : (pt.ways []).take m.toNat = pt.ways [] := List.take_of_length_le (by omega)
      refine ⟨_, results_tmp rfl _ _ _, v2, rfl, ?_, ?_⟩
      · rw [e5]; exact ownsRow_putObj hr3 _ hd3 rfl
      · exact be3.trans ⟨rfl, rfl, rfl, by simp, fun k hk => World.putObj_heap_other (by have := HSZ.out; omega)⟩
    · have he := run_endLoop (P := Tryz.prog) hx.lp (by rw [hrc]; simp)
      have hpd : (rc .done (some (.exit 0))).pending = some (.exit 0) := by rw [hrc]
      rw [hpd] at he
      obtain ⟨rx, he⟩ : ∃ rx : Obj, (Instr.endLoop (w1.heap.size + 1)).run Tryz.prog W2 = .ok (some (.exit 0)) (W2.putObj (w1.heap.size + 1) rx) := ⟨_, he⟩
      refine ⟨some (.exit 0), _, he, ?_⟩
      obtain ⟨v2, hv2, hr2⟩ := hx.v
      have hv3 := box_put hv2 hx.lp rx
      have hr3 := row_put hr2 hx.lp rx
      have hd3 : (W2.putObj (w1.heap.size + 1) rx).heap[w1.heap.size]? = some (.deferred (some [])) := (World.putObj_heap_other (by omega)).trans hx.df
      have be3 := below_put hx.be (l := w1.heap.size + 1) (by omega) rx
      have hle := hx.le
      clear he hpd hv2 hr2 hx hrc hsz sW0 J0
      generalize W2.putObj (w1.heap.size + 1) rx = W3 at *
      have cv := hv3.cell
      gi_wp2
      refine ⟨by simp, .inl ⟨_, _, rfl, run_takeDeferred hd3, ?_⟩⟩
      have e5 : (pt.ways []).take m.toNat = q.dropLast := by
        obtain ⟨z, hz⟩ := hq
        rw [← hz, List.take_append_of_le_length (by omega), List.dropLast_eq_take]
        congr 1
        omega
      refine ⟨_, results_tmp rfl _ _ _, v2, rfl, ?_, ?_⟩
      · rw [e5]; exact ownsRow_putObj hr3 _ hd3 rfl
      · exact be3.trans ⟨rfl, rfl, rfl, by simp, fun k hk => World.putObj_heap_other (by have := HSZ.out; omega)⟩
end Go.Proofs.YtmhllihedejehaaGreat
