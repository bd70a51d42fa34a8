/- A key is put into a tree: what changes. -/
import Derived.Test.YtmhllihedejehaaGreatM14
import Derived.OrdersHeld
import Derived.WalkKit

namespace Go.Proofs.YtmhllihedejehaaGreat
open Go.RowKit
set_option linter.unusedVariables false
set_option linter.unusedSimpArgs false

theorem TopAt.ptr {wd : Int} {w : World} {v : Value} {o : Option Tr} (h : TopAt wd w v o) : ∃ q, v = .pointer q := by
  cases o with
  | none => exact ⟨none, h⟩
  | some t => obtain ⟨b, e, _⟩ := h; exact ⟨_, e⟩
theorem TopAt.setNew {wd : Int} {w w2 : World} {v : Value} {o : Option Tr} (h : TopAt wd w v o) (hb : Below w.heap.size w w2) : TopAt wd w2 v o := TopAt.below hb h

/-- A store into a block that is no node. -/
theorem NodeAt.setOff {wd : Int} {w : World} {c : Nat} {cs : Array Value} (hc : Blk w c cs 34) (i : Nat) (u : Value) : ∀ {t : Tr} {b : Nat}, NodeAt wd w b t → NodeAt wd (w.setCell ⟨c, i, none⟩ u) b t
  | .leaf k v, b, h => Blk.setOther h _ (fun e => by
      have e : b = c := e
      subst e
      have := Option.some.inj (h.symm.trans hc)
      injection this with _ h2 _
      exact absurd h2 (by decide)) _
  | .fork p l r, b, h => by
    obtain ⟨bl, br, h, h1, h2⟩ := h
    refine ⟨bl, br, h.setOther _ (fun e => ?_) _, NodeAt.setOff hc i u h1, NodeAt.setOff hc i u h2⟩
    have e : b = c := e
    subst e
    have := Option.some.inj (h.symm.trans hc)
    injection this with _ h2 _
    exact absurd h2 (by decide)
theorem TopAt.setOff {wd : Int} {w : World} {c : Nat} {cs : Array Value} {v : Value} {o : Option Tr} (h : TopAt wd w v o) (hc : Blk w c cs 34) (i : Nat) (u : Value) : TopAt wd (w.setCell ⟨c, i, none⟩ u) v o := by
  cases o with
  | none => exact h
  | some t => obtain ⟨b, e, h⟩ := h; exact ⟨b, e, NodeAt.setOff hc i u h⟩

/-- The tree's two cells, and the answer's, in a world. -/
structure PutAt (w0 : World) (wd : Int) (q : Option Addr) (w : World) : Prop where
  below : Below w0.heap.size w0 w
  t : Blk w w0.heap.size #[.int .i64 wd, .pointer q] 34
  r : Blk w (w0.heap.size + 1) #[.int .i64 0, .pointer none] 34
theorem PutAt.next {w0 w w' : World} {wd : Int} {q : Option Addr} (h : PutAt w0 wd q w) (hb : Below w.heap.size w w') : PutAt w0 wd q w' :=
  ⟨h.below.trans (hb.mono h.below.size), h.t.below hb h.t.lt, h.r.below hb h.r.lt⟩
theorem PutAt.set {w0 w : World} {wd : Int} {q : Option Addr} (h : PutAt w0 wd q w) (q' : Option Addr) : PutAt w0 wd q' (w.setCell ⟨w0.heap.size, 1, none⟩ (.pointer q')) :=
  ⟨h.below.setCell (p := ⟨w0.heap.size, 1, none⟩) (Nat.le_refl _) _, h.t.set 1 (.pointer q'), h.r.setOther _ (by show _ ≠ w0.heap.size; omega) _⟩
theorem PutAt.facts {w0 w : World} {wd : Int} {q : Option Addr} (h : PutAt w0 wd q w) : w.cell? ⟨w0.heap.size, 0, none⟩ = some (.int .i64 wd) ∧ w.cell? ⟨w0.heap.size, 1, none⟩ = some (.pointer q) ∧ w.cell? ⟨w0.heap.size + 1, 0, none⟩ = some (.int .i64 0) ∧ w.cell? ⟨w0.heap.size + 1, 1, none⟩ = some (.pointer none) ∧ w.frozen? ⟨w0.heap.size, 1, none⟩ = false ∧ w.frozen? ⟨w0.heap.size + 1, 0, none⟩ = false ∧ w.frozen? ⟨w0.heap.size + 1, 1, none⟩ = false :=
  ⟨(h.t.cell 0).trans rfl, (h.t.cell 1).trans rfl, (h.r.cell 0).trans rfl, (h.r.cell 1).trans rfl, h.t.frozen 1, h.r.frozen 0, h.r.frozen 1⟩
theorem PutAt.start (w : World) (wd : Int) (q : Option Addr) : PutAt w wd q ((w.alloc (.cells #[.int .i64 wd, .pointer q] 34)).alloc (.cells #[.int .i64 0, .pointer none] 34)) := by
  refine ⟨((Below.refl _ _).alloc (Nat.le_refl _) _).alloc (by simp) _, (Blk.new w _ _).alloc _, ?_⟩
  have := Blk.new (w.alloc (.cells #[.int .i64 wd, .pointer q] 34)) #[.int .i64 0, .pointer none] 34
  rwa [World.size_alloc] at this

/-- A tree is as it was behind the three stores. -/
theorem PutAt.tops {w0 w : World} {wd : Int} {q : Option Addr} (h : PutAt w0 wd q w) (q' : Option Addr) (u1 u2 : Value) {v : Value} {o : Option Tr} (hv : TopAt wd w v o) :
    TopAt wd (((w.setCell ⟨w0.heap.size, 1, none⟩ (.pointer q')).setCell ⟨w0.heap.size + 1, 0, none⟩ u1).setCell ⟨w0.heap.size + 1, 1, none⟩ u2) v o := by
  have h1 := (h.set q').r
  exact ((hv.setOff h.t 1 _).setOff h1 0 u1).setOff (h1.set 0 u1) 1 u2

set_option maxHeartbeats 3200000 in
theorem put_without (wd : Int) (b : Nat) (t : Tr) (key : Key) (w : World) (hw : okW wd) (hk : key.length ≤ 32) (hp : t.placed) (h : NodeAt wd w b t) (he : ¬ getO key (some t) = []) :
    Calls Tryz.prog 23 #[.agg #[.int .i64 wd, .pointer (some ⟨b, 0, none⟩)], .string (str key), .string (str [])] w fun e w' => ∃ q, e = .returned (.tuple #[.agg #[.int .i64 wd, .pointer q], .int .i64 0]) ∧ TopAt wd w' (.pointer q) (t.without key) ∧ Below w.heap.size w w' := by
  have s1 := str_size key
  have s2 := str_size []
  have h1' : ¬ (32 : Int) < (key.length : Int) := by omega
  have PA := PutAt.start w wd (some ⟨b, 0, none⟩)
  have key1 := get_any wd (.pointer (some ⟨b, 0, none⟩)) (some t) key _ (by unfold maxLen; omega) (fun u e => by cases e; exact hp) (TopAt.below PA.below ⟨b, rfl, h⟩)
  obtain ⟨G, HG⟩ : ∃ G, Hid (getO key (some t) = G) := ⟨_, rfl⟩
  rw [HG.out] at key1 he
  have hGb : (G == []) = false := by simpa using he
  have hGe : G.isEmpty = false := by cases G with | nil => exact (he rfl).elim | cons _ _ => rfl
  have l1 := str_toList G
  have l2 := str_toList []
  go_enter Tryz.func23, Tryz.ntmps23
  go_wp2_with fail
  generalize (w.alloc (.cells #[.int .i64 wd, .pointer (some ⟨b, 0, none⟩)] 34)).alloc (.cells #[.int .i64 0, .pointer none] 34) = wA at *
  refine key1.mono ?_
  rintro e w1 ⟨rfl, b1⟩
  have P1 := PA.next b1
  obtain ⟨t0, t1, r0, r1, g0, g1, g2⟩ := P1.facts
  have z1 := P1.t.lt
  have z2 := P1.r.lt
  have key2 := without_any wd (some ⟨b, 0, none⟩) key hw (by unfold maxLen; omega) t b w1 hp (NodeAt.below P1.below h)
  clear key1
  go_wp2_with fail
  refine key2.mono ?_
  rintro e w2 ⟨v, rfl, hv, b2⟩
  obtain ⟨q, rfl⟩ := hv.ptr
  have P2 := P1.next b2
  have P3 := P2.set q
  clear t0 t1 r0 r1 g0 g1 g2 z1 z2
  obtain ⟨t0, t1, r0, r1, g0, g1, g2⟩ := P2.facts
  obtain ⟨t0', t1', r0', r1', g0', g1', g2'⟩ := P3.facts
  have z1 := P2.t.lt
  have z2 := P2.r.lt
  clear key2
  go_wp2
  refine bodyPost_ret (v := .tuple #[.agg #[.int .i64 wd, .pointer q], .int .i64 0]) (by simp [results, Tryz.results23, go_sem, t0, t1, r0, r1, g0, g1, g2, t0', t1', r0', r1', g0', g1', g2', z1, z2]) rfl ⟨q, rfl, ?_, (P3.below.setCell (p := ⟨w.heap.size + 1, 0, none⟩) (Nat.le_succ _) _).setCell (p := ⟨w.heap.size + 1, 1, none⟩) (Nat.le_succ _) _⟩
  exact P2.tops q _ _ hv

set_option maxHeartbeats 3200000 in
theorem put_first (wd : Int) (key value : Key) (w : World) (hw : okW wd) (hk : key.length ≤ 32) (hv : value.length ≤ 4096) (hne : ¬ value = []) :
    Calls Tryz.prog 23 #[.agg #[.int .i64 wd, .pointer none], .string (str key), .string (str value)] w fun e w' => ∃ q, e = .returned (.tuple #[.agg #[.int .i64 wd, .pointer q], .int .i64 0]) ∧ TopAt wd w' (.pointer q) (some (.leaf key value)) ∧ Below w.heap.size w w' := by
  have s1 := str_size key
  have s2 := str_size value
  have h1' : ¬ (32 : Int) < (key.length : Int) := by omega
  have h2' : ¬ (4096 : Int) < (value.length : Int) := by omega
  have PA := PutAt.start w wd none
  have key1 := fun w' => get_none wd (str key) w'
  have hGb : ([] == value) = false := by cases value with | nil => exact (hne rfl).elim | cons _ _ => rfl
  have hGc : (value == []) = false := by simpa using hne
  have hGe : value.isEmpty = false := by cases value with | nil => exact (hne rfl).elim | cons _ _ => rfl
  have l1 := str_toList value
  go_enter Tryz.func23, Tryz.ntmps23
  go_wp2_with fail
  generalize (w.alloc (.cells #[.int .i64 wd, .pointer none] 34)).alloc (.cells #[.int .i64 0, .pointer none] 34) = wA at *
  refine (key1 _).mono ?_
  rintro e w1 ⟨rfl, b1⟩
  have P1 := PA.next b1
  obtain ⟨t0, t1, r0, r1, g0, g1, g2⟩ := P1.facts
  have z1 := P1.t.lt
  have z2 := P1.r.lt
  have key2 := leafOf_any wd key value w1 hw (by omega) (by omega)
  clear key1
  go_wp2_with fail
  refine key2.mono ?_
  rintro e w2 ⟨c, rfl, hn, b2⟩
  have P2 := P1.next b2
  have P3 := P2.set (some ⟨c, 0, none⟩)
  clear t0 t1 r0 r1 g0 g1 g2 z1 z2
  obtain ⟨t0, t1, r0, r1, g0, g1, g2⟩ := P2.facts
  obtain ⟨t0', t1', r0', r1', g0', g1', g2'⟩ := P3.facts
  have z1 := P2.t.lt
  have z2 := P2.r.lt
  have hv : TopAt wd w2 (.pointer (some ⟨c, 0, none⟩)) (some (.leaf key value)) := ⟨c, rfl, hn⟩
  clear key2
  go_wp2
  refine bodyPost_ret (v := .tuple #[.agg #[.int .i64 wd, .pointer (some ⟨c, 0, none⟩)], .int .i64 0]) (by simp [results, Tryz.results23, go_sem, t0, t1, r0, r1, g0, g1, g2, t0', t1', r0', r1', g0', g1', g2', z1, z2]) rfl ⟨_, rfl, ?_, (P3.below.setCell (p := ⟨w.heap.size + 1, 0, none⟩) (Nat.le_succ _) _).setCell (p := ⟨w.heap.size + 1, 1, none⟩) (Nat.le_succ _) _⟩
  exact P2.tops _ _ _ hv
end Go.Proofs.YtmhllihedejehaaGreat

namespace Go.Proofs.YtmhllihedejehaaGreat
set_option linter.unusedVariables false
variable {P : Program} {md : Region.Mode} {ops ops' : Array Oper} {Q : Exit → Act → World → Prop}

/-- Behind all others the last one is still to come. -/
def ThenLast (P : Program) (ops : Array Oper) (Q : Exit → Act → World → Prop) (m : Nat) : Exit → Act → World → Prop
  | .normal, a, w => wpOp P ops Q m (fun a w => Q .normal a w) a w
  | e, a, w => Q e a w

/-- What an operation asks of an ending is the same but at its plain end. -/
theorem wp_last {m : Nat} {o : Oper} {a : Act} {w : World} {K K' : Act → World → Prop} (h : ∀ a w, K a w → K' a w) (hh : o.wp P a w K (ThenLast P ops Q m)) : o.wp P a w K' Q := by
  unfold Oper.wp at hh ⊢
  generalize (execOp a.eval o).run P w = r at hh ⊢
  cases r with
  | ok n w' =>
    cases n with
    | value v => exact h _ _ hh
    | skip => exact h _ _ hh
    | defer d => exact h _ _ hh
    | enter f args =>
      refine Calls.mono (R := _) hh fun e w'' he => ?_
      cases e with
      | returned v => exact h _ _ he
      | panicked c => exact he
      | outgrown => exact he
    | row r args => exact Rows.mono hh fun _ _ he => h _ _ he
    | _ => exact hh
  | halt x w' => cases x <;> exact hh

theorem getD_tf {listed : Array Bool} {i : Nat} (hi : i < listed.size) (h : listed.getD i true = true) : listed.getD i false = true := by
  simp [Array.getD, hi] at h ⊢; exact h

/-- Where one is left, one may come. -/
theorem ready_some (hord : ∀ (j : Nat) (o : Oper), ops[j]? = some o → ∀ e ∈ o.after, e.on < j) (listed : Array Bool) (hs : listed.size = ops.size) : ∀ m, m < ops.size → listed.getD m true = false → Region.ready md ops listed ≠ [] := by
  intro m
  induction m using Nat.strongRecOn with
  | _ m ih =>
    intro hm hl
    by_cases hx : ∃ j, j < m ∧ listed.getD j true = false
    · obtain ⟨j, hj, hjl⟩ := hx
      exact ih j hj (by omega) hjl
    · intro h0
      have hmem : m ∈ Region.ready md ops listed := by
        unfold Region.ready
        rw [List.mem_filter]
        refine ⟨List.mem_range.2 hm, ?_⟩
        rw [hl]
        have hg : ops[m]? = some ops[m] := Array.getElem?_eq_getElem hm
        rw [hg]
        simp only [Bool.not_false, Bool.true_and, Option.map_some, Option.getD_some]
        rw [Array.all_eq_true']
        intro e he
        have hlt := hord m _ hg e he
        have : listed.getD e.on true = true := by
          cases hq : listed.getD e.on true with
          | true => rfl
          | false => exact (hx ⟨e.on, hlt, hq⟩).elim
        rw [getD_tf (by omega) this]
        simp
      rw [h0] at hmem
      simp at hmem

theorem wpAny_last (m : Nat) (om om' : Oper) (hsz : ops'.size = ops.size) (hm : ops[m]? = some om) (hm' : ops'[m]? = some om') (heq : ∀ j, j ≠ m → ops'[j]? = ops[j]?) (haf : om'.after = om.after)
    (hd : om'.dst = om.dst) (hno : om.dst = none) (hg : om'.guard = none) (hnop : ∀ (a : Act) (w : World) (K : Act → World → Prop) (R : Exit → Act → World → Prop), om'.wp P a w K R → K a w) (hask : ∀ a w, ¬ om'.asks P a w)
    (hord : ∀ (j : Nat) (o : Oper), ops[j]? = some o → ∀ e ∈ o.after, e.on < j) (hwait : ∀ j, j < ops.size → j ≠ m → ∃ e ∈ om.after, Region.binds md e = true ∧ e.on = j) :
    ∀ fuel listed a w, listed.size = ops.size → listed.getD m true = false → wpAny P md ops' (ThenLast P ops Q m) fuel listed a w → wpAny P md ops Q fuel listed a w := by
  have hml : m < ops.size := (Array.getElem?_eq_some_iff.1 hm).1
  have hy : ∀ tm, yielded ops' tm = yielded ops tm := by
    intro tm
    funext j
    unfold yielded
    by_cases hj : j = m
    · subst hj; rw [hm, hm']; simp only [Option.bind_some, hd]
    · rw [heq j hj]
  have hr : ∀ listed, Region.ready md ops' listed = Region.ready md ops listed := by
    intro listed
    unfold Region.ready
    rw [hsz]
    congr 1
    funext j
    by_cases hj : j = m
    · subst hj; rw [hm, hm']; simp only [Option.map_some, haf]
    · rw [heq j hj]
  intro fuel
  induction fuel with
  | zero =>
    intro listed a w hs hl h
    have := h.1
    rw [hr] at this
    exact (ready_some hord listed hs m hml hl this).elim
  | succ fuel ih =>
    intro listed a w hs hl h
    refine ⟨fun h0 => (ready_some hord listed hs m hml hl h0).elim, fun i hi => ?_⟩
    have h2 := h.2 i (by rw [hr]; exact hi)
    by_cases him : i = m
    · subst him
      have hall : ∀ j, j < ops.size → j ≠ i → listed.getD j true = true := by
        intro j hj hji
        unfold Region.ready at hi
        rw [List.mem_filter] at hi
        have h3 := hi.2
        rw [hm] at h3
        simp only [Option.map_some, Option.getD_some, Bool.and_eq_true] at h3
        obtain ⟨e, he, hb, hon⟩ := hwait j hj hji
        have h4 := (Array.all_eq_true'.1 h3.2) e he
        rw [hb, hon] at h4
        have hjs : j < listed.size := by omega
        simp [Array.getD, hjs] at h4 ⊢
        exact h4
      have hrn : Region.ready md ops (listed.setIfInBounds i true) = [] := by
        unfold Region.ready
        rw [List.filter_eq_nil_iff]
        intro j hj
        have hj := List.mem_range.1 hj
        have : (listed.setIfInBounds i true).getD j true = true := by
          by_cases hji : j = i
          · subst hji; simp [Array.getD]
          · have := hall j hj hji
            have hjs : j < listed.size := by omega
            have hij : i ≠ j := fun e => hji e.symm
            simp only [Array.getD_eq_getD_getElem?] at this ⊢
            rw [Array.getElem?_setIfInBounds_ne hij]
            exact this
        rw [this]; simp
      unfold wpOp at h2
      rw [hm'] at h2
      simp only [Region.wanted, hg, if_true] at h2
      have h5 : wpAny P md ops' (ThenLast P ops Q i) fuel (listed.setIfInBounds i true) a w := by
        rcases h2 with h2 | ⟨h2, _⟩
        · exact hnop _ _ _ _ h2
        · exact (hask _ _ h2).elim
      have h6 : ThenLast P ops Q i .normal a w := by
        cases fuel with
        | zero => exact h5.2
        | succ n => exact h5.1 (by rw [hr]; exact hrn)
      exact wpOp_mono (fun a' w' hq => wpAny_done hrn hq _) h6
    · have ho : ops'[i]? = ops[i]? := heq i him
      have hl' : (listed.setIfInBounds i true).getD m true = false := by
        have hms : m < listed.size := by omega
        simp [Array.getD, hms, him] at hl ⊢
        exact hl
      have key : wpOp P ops Q i (wpAny P md ops Q fuel (listed.setIfInBounds i true)) a w := by
        unfold wpOp at h2 ⊢
        rw [ho, hy] at h2
        cases hoi : ops[i]? with
        | none => rw [hoi] at h2; exact ih _ _ _ (by simpa using hs) hl' h2
        | some o =>
          rw [hoi] at h2
          simp only at h2 ⊢
          split
          · rename_i hw
            rw [if_pos hw] at h2
            exact h2.imp (wp_last fun a' w' hk => ih _ _ _ (by simpa using hs) hl' hk) (fun ⟨x, y⟩ => ⟨x, y⟩)
          · rename_i hw
            rw [if_neg hw] at h2
            exact ih _ _ _ (by simpa using hs) hl' h2
      exact key

theorem nop_wp {o : Oper} (ho : o.op = .move (.const undef)) (hd : o.dst = none) (a : Act) (w : World) (K : Act → World → Prop) (R : Exit → Act → World → Prop) (h : o.wp P a w K R) : K a w := by
  unfold Oper.wp execOp at h
  rw [ho] at h
  have h : K (a.put o.dst (a.eval (.const undef))) w := h
  rw [hd] at h
  exact h
theorem nop_asks {o : Oper} (ho : o.op = .move (.const undef)) (a : Act) (w : World) : ¬ o.asks P a w := by
  unfold Oper.asks execOp
  rw [ho]
  intro h
  have h1 : noRoomEvent ∈ (#[] : Array Event) := h.1
  simp at h1

/-- Every edge leads back; and the last one waits for all. -/
def lastB (md : Region.Mode) (ops : Array Oper) (m : Nat) : Bool :=
  (List.range ops.size).all (fun j => match ops[j]? with | some o => o.after.all fun e => decide (e.on < j) | none => true) &&
  (match ops[m]? with | some om => (List.range ops.size).all (fun j => j == m || om.after.any fun e => Region.binds md e && e.on == j) && om.dst.isNone && om.guard.isNone | none => false)

theorem wp_region_last {S : World → Prop} {id : Nat} {a : Act} {w : World} (m : Nat) (om : Oper) (hm : ops[m]? = some om) (hB : lastB .any ops m = true) (hx : P.follows .mixedOrders = true)
    (h : wpAnyH P .any (ops.setIfInBounds m { om with op := .move (.const undef) }) (ThenLast P ops Q m) S ops.size (Array.replicate ops.size false) a w.drew) : (Code.region id ops true).wp P Q a w := by
  unfold lastB at hB
  rw [hm] at hB
  simp only [Bool.and_eq_true, List.all_eq_true, List.mem_range] at hB
  obtain ⟨h1, ⟨h2, h3⟩, h4⟩ := hB
  have hml : m < ops.size := (Array.getElem?_eq_some_iff.1 hm).1
  have hd : om.dst = none := Option.isNone_iff_eq_none.1 h3
  have hgd : om.guard = none := Option.isNone_iff_eq_none.1 h4
  refine wp_region_any hx (wpAny_last (ops' := ops.setIfInBounds m { om with op := .move (.const undef) }) m om { om with op := .move (.const undef) } (by simp) hm (by simp [hml]) (fun j hj => Array.getElem?_setIfInBounds_ne (Ne.symm hj)) rfl rfl hd hgd (nop_wp rfl hd) (nop_asks rfl) ?_ ?_ ops.size _ a _ (by simp) ?_ (wpAny_of_held _ _ _ _ h))
  · intro j o hj e he
    have hjl : j < ops.size := (Array.getElem?_eq_some_iff.1 hj).1
    have := h1 j hjl
    rw [hj] at this
    have := (Array.all_eq_true'.1 this) e he
    simpa using this
  · intro j hj hjm
    have := h2 j hj
    rw [Bool.or_eq_true] at this
    rcases this with h5 | h5
    · exact (hjm (by simpa using h5)).elim
    · obtain ⟨e, he, hb⟩ := Array.any_eq_true'.1 h5
      rw [Bool.and_eq_true] at hb
      exact ⟨e, he, hb.1, by simpa using hb.2⟩
  · simp [Array.getD, hml]
end Go.Proofs.YtmhllihedejehaaGreat
