/- A seat put into a list, by who. -/
import Derived.Test.YtimcddknoanghaaBFn
import Derived.Maps.AppendAt
namespace Go.Proofs.Ytimcddknoanghaa
open Go.RowKit
set_option linter.unusedVariables false
set_option linter.unusedSimpArgs false

theorem wp_append_run {P : Program} {w : World} {o : Oper} {a : Act} {K : Act → World → Prop} {Q : Exit → Act → World → Prop} (s x : Operand) (t : TypeId) (ho : o.op = .call { callee := .builtin .append, args := #[s, x], argTypes := #[t, t] })
    (v1 v2 v : Value) (w' : World) (hs : a.eval s = v1) (hx : a.eval x = v2) (hr : (Builtin.append_ #[t, t] o.type #[v1, v2]).run P w = .ok v w') (h : K (a.put o.dst v) w') : o.wp P a w K Q := by
  unfold Oper.wp execOp
  simp only [ho, resolve, invoke, builtin, Sem.run_bind, Sem.run_pure, Result.andThen_ok, List.map_toArray, List.map_cons, List.map_nil, hs, hx, hr]
  exact h

theorem wpList_append_run {P : Program} {w : World} {ops : Array Oper} {rest : List Oper} {o : Oper} {a : Act} {Q : Exit → Act → World → Prop} (hgd : o.guard = none) (s x : Operand) (t : TypeId) (ho : o.op = .call { callee := .builtin .append, args := #[s, x], argTypes := #[t, t] })
    (v1 v2 v : Value) (w' : World) (hs : a.eval s = v1) (hx : a.eval x = v2) (hr : (Builtin.append_ #[t, t] o.type #[v1, v2]).run P w = .ok v w') (h : wpList P ops Q rest (a.put o.dst v) w') : wpList P ops Q (o :: rest) a w :=
  wpList_plain hgd fun _ hK => wp_append_run s x t ho v1 v2 v w' hs hx hr (hK _ _ h)

theorem app_seats (w : World) (base : Nat) (sv : Value) (done : List (Int × Int)) (hown : w.ownsRow base 53 2 sv done.length (flatS done)) (la : Option Addr) (cap : Nat) (l : List (Int × Int)) (hT : SeatsAt w la l) (hd : done.length ≤ 200000) (hl : l.length ≤ 200000) (hb : base ≤ w.heap.size) (nn : Nat) (hnn : l.length = nn) :
    ∃ v w', (Builtin.append_ #[22, 22] 22 #[sv, .slice la nn cap]).run Try.prog w = .ok v w' ∧ w'.ownsRow base 53 2 v (done ++ l).length (flatS (done ++ l)) ∧ w.grownBy w' sv.ownBlock := by
  subst hnn
  obtain ⟨i0, hi, hz0, hz1, hz2⟩ := info_parts infoSeat
  have hfl : flatS (done ++ l) = flatS done ++ flatS l := flatS_app _ _
  by_cases h0 : l = []
  · subst h0
    simp only [List.length_nil, List.append_nil]
    rcases hown.2 with ⟨rfl, hn⟩ | ⟨g, cg, cur, rfl, hg1, hg2, hg3, hg4, hg5, hg6⟩
    · cases la with
      | none => exact ⟨_, w, by simp [Builtin.append_, run_underlying Try.underlying22, sizeOf, typeInfo, hi, Builtin.lenOf, Builtin.firstCells, loadCells, loadCellsFrom], hown, ⟨rfl, rfl, rfl, Nat.le_refl _, fun _ _ _ => rfl⟩⟩
      | some ad =>
        obtain ⟨v, w', hr, h1, h2, _⟩ := run_append_own_at (P := Try.prog) w base 22 22 53 i0 (.agg #[.int .i64 0, .int .i64 0]) 2 16 Try.underlying22 hi hz0 hz1 hz2 rfl (by decide) _ _ _ hown ad 0 cap [] (by simp) (by simp) (by simp) (by unfold maxLen; omega) (by omega) hb
        exact ⟨v, w', hr, by simpa using h1, h2⟩
    · cases la with
      | none =>
        refine ⟨.slice (some ⟨g, 0, none⟩) done.length cg, w, ?_, hown, ⟨rfl, rfl, rfl, Nat.le_refl _, fun _ _ _ => rfl⟩⟩
        simp [Builtin.append_, run_underlying Try.underlying22, sizeOf, typeInfo, hi, Builtin.lenOf, Builtin.firstCells, loadCells, loadCellsFrom]
        rw [if_pos hg3]
        simp [storeCells, Result.andThen]
      | some ad =>
        obtain ⟨v, w', hr, h1, h2, _⟩ := run_append_own_at (P := Try.prog) w base 22 22 53 i0 (.agg #[.int .i64 0, .int .i64 0]) 2 16 Try.underlying22 hi hz0 hz1 hz2 rfl (by decide) _ _ _ hown ad 0 cap [] (by simp) (by simp) (by simp) (by unfold maxLen; omega) (by omega) hb
        exact ⟨v, w', hr, by simpa using h1, h2⟩
  · rcases hT with e | ⟨b, off, rfl, hlt, hc⟩
    · exact absurd e h0
    · obtain ⟨v, w', hr, h1, h2, _⟩ := run_append_own_at (P := Try.prog) w base 22 22 53 i0 (.agg #[.int .i64 0, .int .i64 0]) 2 16 Try.underlying22 hi hz0 hz1 hz2 rfl (by decide) _ _ _ hown ⟨b, off, none⟩ l.length cap (flatS l) (flatS_len l) (news_seats hc) (flatS_one l) (by unfold maxLen; omega) (by omega) hb
      exact ⟨v, w', hr, by rw [hfl, List.length_append]; exact h1, h2⟩

theorem SeatsAt.take {w : World} {b off : Nat} {l : List (Int × Int)} (h : SeatsAt w (some ⟨b, off, none⟩) l) (k : Nat) : SeatsAt w (some ⟨b, off, none⟩) (l.take k) := by
  rcases h with h | ⟨b', off', e, hl, hc⟩
  · exact .inl (by simp [h])
  · refine .inr ⟨b', off', e, hl, fun i x hx => hc i x ?_⟩
    have hi : i < (l.take k).length := (List.getElem?_eq_some_iff.1 hx).1
    rw [List.length_take] at hi
    rwa [List.getElem?_take_of_lt (by omega)] at hx
theorem SeatsAt.drop {w : World} {b off : Nat} {l : List (Int × Int)} (h : SeatsAt w (some ⟨b, off, none⟩) l) (k : Nat) : SeatsAt w (some ⟨b, off + k * 2, none⟩) (l.drop k) := by
  rcases h with h | ⟨b', off', e, hl, hc⟩
  · exact .inl (by simp [h])
  · injection e with e
    injection e with e1 e2
    subst e1 e2
    refine .inr ⟨b, off + k * 2, rfl, hl, fun i x hx => ?_⟩
    rw [List.getElem?_drop] at hx
    have := hc (k + i) x hx
    rw [show off + k * 2 + i * 2 = off + (k + i) * 2 by omega]
    exact this
theorem SeatsAt.blk {w : World} {b : Nat} {x y : Int} (h : Blk w b #[.int .i64 x, .int .i64 y] 53) : SeatsAt w (some ⟨b, 0, none⟩) [(x, y)] := by
  refine .inr ⟨b, 0, rfl, h.lt, fun i z hz => ?_⟩
  have hi : i < 1 := (List.getElem?_eq_some_iff.1 hz).1
  obtain rfl : i = 0 := by omega
  simp at hz
  subst hz
  exact ⟨(h.cell 0).trans rfl, (h.cell 1).trans rfl⟩
theorem owns_base {w : World} {base base' : Nat} {e : TypeId} {size : Nat} {v : Value} {n : Nat} {xs : List Value} (h : w.ownsRow base' e size v n xs) (hb : base ≤ base') : w.ownsRow base e size v n xs := by
  obtain ⟨h1, h2⟩ := h
  refine ⟨h1, ?_⟩
  rcases h2 with h2 | ⟨g, cap, cur, e1, h3, h4⟩
  · exact .inl h2
  · exact .inr ⟨g, cap, cur, e1, Nat.le_trans hb h3, h4⟩

/-- A seat put ahead of the first whose who is not less. -/
def insP (s : Int × Int) : List (Int × Int) → List (Int × Int)
  | [] => [s]
  | y :: r => if y.1 < s.1 then y :: insP s r else s :: y :: r
theorem insP_at (s : Int × Int) : ∀ (l : List (Int × Int)) (k : Nat), k ≤ l.length → (∀ x ∈ l.take k, x.1 < s.1) → (∀ x, l[k]? = some x → ¬ x.1 < s.1) → insP s l = l.take k ++ [s] ++ l.drop k
  | [], 0, _, _, _ => rfl
  | [], k + 1, h, _, _ => by simp at h
  | y :: r, 0, _, _, h2 => by
    have := h2 y rfl
    simp [insP, this]
  | y :: r, k + 1, h, h1, h2 => by
    have hy : y.1 < s.1 := h1 y (by simp)
    have ih := insP_at s r k (by simpa using h) (fun x hx => h1 x (by simp [hx])) (fun x hx => h2 x (by simpa using hx))
    simp [insP, hy, ih]

set_option maxRecDepth 4000 in
set_option maxHeartbeats 1600000 in
theorem rinsert_any (base : Nat) (sv : Value) (l : List (Int × Int)) (x y : Int) (w : World) (hl : l.length ≤ 64) (hown : w.ownsRow base 53 2 sv l.length (flatS l)) :
    Calls Try.prog 42 #[sv, .agg #[.int .i64 x, .int .i64 y]] w fun e w' => (∃ v, e = .returned v ∧ w'.ownsRow w.heap.size 53 2 v (insP (x, y) l).length (flatS (insP (x, y) l))) ∧ Below w.heap.size w w' := by
  obtain ⟨la, ca, rfl, h1⟩ := SeatsAt.of_owns hown
  have bA : Below w.heap.size w (w.alloc (.cells #[.int .i64 x, .int .i64 y] 53)) := (Below.refl _ _).alloc (Nat.le_refl _) _
  have kS := Blk.new w #[.int .i64 x, .int .i64 y] 53
  have hI := h1.below bA
  rcases hown.2 with ⟨e0, hn⟩ | ⟨g, cap, cur, e0, hg1, hg2, hg3, hg4, hg5, hg6⟩
  · injection e0 with e1 e2 e3
    subst e1 e3
    have : l = [] := List.eq_nil_of_length_eq_zero hn
    subst this
    go_enter Try.func42, Try.ntmps42
    go_wp2_with fail
    generalize w.alloc (.cells #[.int .i64 x, .int .i64 y] 53) = wA at *
    go_loopw [5] (fun iv wv => iv = .int .i64 0 ∧ Below wA.heap.size wA wv) (fun iv _ => 0)
    case atStart => exact ⟨rfl, Below.refl _ _⟩
    case round =>
      obtain ⟨rfl, hb⟩ := hrel
      go_upto_region 2 with fail
      go_quiet (fail)
      have HE : Hid (insP (x, y) [] = ([] : List (Int × Int)).take 0 ++ [(x, y)] ++ [].drop 0) := rfl
      have hbq := below_drewN hb nq
      generalize wr.drewN nq = wq at *
      go_upto_region 4 with fail
      have hz0 : Below wA.heap.size wA (wq.alloc (.cells #[] 53)) := hbq.alloc hbq.size _
      obtain ⟨v1, w1, hr1, ho1, hgr1⟩ := app_seats (wq.alloc (.cells #[] 53)) wA.heap.size _ [] (World.ownsRow_made wq #[] 0 hbq.size (Nat.zero_le _) rfl) none 0 (([] : List (Int × Int)).take 0) (.inl rfl) (by simp) (by simp; try omega) hz0.size 0 (by simp; try omega)
      simp only [List.nil_append] at ho1
      have b1 : Below wA.heap.size wA w1 := hz0.grown hgr1 hz0.size (fun k e => by simp [Value.ownBlock] at e; have := hbq.size; omega)
      go_upto_region 5 with (at_builtin; refine wpList_append_run rfl _ _ 22 rfl _ _ v1 w1 rfl rfl hr1 ?_)
      clear hr1 hgr1 hz0
      have k1 := kS.below b1 kS.lt
      have s0 := (k1.cell 0).trans rfl
      have s1 := (k1.cell 1).trans rfl
      have zs := k1.lt
      have hz1 : Below wA.heap.size wA (w1.alloc (.cells #[.int .i64 x, .int .i64 y] 53)) := b1.alloc b1.size _
      obtain ⟨v2, w2, hr2, ho2, hgr2⟩ := app_seats (w1.alloc (.cells #[.int .i64 x, .int .i64 y] 53)) wA.heap.size v1 _ (ho1.alloc _) (some ⟨w1.heap.size, 0, none⟩) 1 [(x, y)] (SeatsAt.blk (Blk.new _ _ _)) (by simp; try omega) (by simp) hz1.size 1 rfl
      have b2 : Below wA.heap.size wA w2 := hz1.grown hgr2 hz1.size (fun k e => (ho1.lt k e).1)
      go_upto_region 6 with (at_builtin; refine wpList_append_run rfl _ _ 22 rfl _ _ v2 w2 rfl rfl hr2 ?_)
      clear hr2 hgr2 hz1 ho1 s0 s1
      obtain ⟨v3, w3, hr3, ho3, hgr3⟩ := app_seats w2 wA.heap.size v2 _ ho2 none 0 (([] : List (Int × Int)).drop 0) (.inl rfl) (by simp; try omega) (by simp; try omega) b2.size 0 (by simp)
      have b3 : Below wA.heap.size wA w3 := b2.grown hgr3 b2.size (fun k e => (ho2.lt k e).1)
      go_wp2_with (at_builtin; refine wpList_append_run rfl _ _ 22 rfl _ _ v3 w3 rfl rfl hr3 ?_)
      all_goals
        go_ret
        exact ⟨⟨v3, rfl, by rw [HE.out]; exact owns_base ho3 bA.size⟩, bA.trans (b3.mono bA.size)⟩
  · injection e0 with e1 e2 e3
    subst e1 e3
    have hcap : l.length ≤ ca := hg3
    go_enter Try.func42, Try.ntmps42
    go_wp2_with fail
    generalize w.alloc (.cells #[.int .i64 x, .int .i64 y] 53) = wA at *
    go_loopw [5] (fun iv wv => ∃ k : Nat, k ≤ l.length ∧ iv = .int .i64 k ∧ Hid (∀ z ∈ l.take k, z.1 < x) ∧ Below wA.heap.size wA wv) (fun iv _ => l.length - (intOf iv).toNat)
    case atStart => exact ⟨0, Nat.zero_le _, rfl, by show ∀ _ ∈ _, _; simp, Below.refl _ _⟩
    case round =>
      obtain ⟨k, hk, rfl, HT, hb⟩ := hrel
      have t0 := ((kS.below hb kS.lt).cell 0).trans rfl
      have zt := (kS.below hb kS.lt).lt
      by_cases hlt : k < l.length
      · have hlt' : (k : Int) < (l.length : Int) := by omega
        obtain ⟨b1, o1, e1, z1, a1, a2⟩ := (hI.below hb).one hlt
        injection e1 with e1
        injection e1 with e1 e2
        rw [← e1, ← e2] at a1 a2
        simp only [Nat.zero_add] at a1 a2
        rw [← e1] at z1
        clear e1 e2
        have ht := List.take_succ_eq_append_getElem hlt
        have HX : Hid (l[k]? = some l[k]) := List.getElem?_eq_getElem hlt
        generalize l[k] = s at *
        obtain ⟨sk, sv⟩ := s
        simp only at a1 a2
        by_cases hlx : sk < x
        · have HN : Hid (∀ z ∈ l.take (k + 1), z.1 < x) := by
            show ∀ z ∈ _, _
            rw [ht]
            intro z hz
            rcases List.mem_append.1 hz with hz | hz
            · exact HT.out z hz
            · simp only [List.mem_singleton] at hz; subst hz; exact hlx
          clear ht HX HT
          go_upto_region 2 with fail
          go_quiet (fail)
          go_wp2
          exact ⟨⟨k + 1, by omega, by go_num, HN, below_drewN hb _⟩, by simp [intOf]; omega⟩
        · have hd : decide (sk < x) = false := by simpa using hlx
          go_upto_region 2 with fail
          go_quiet (fail)
          have HE : Hid (insP (x, y) l = l.take k ++ [(x, y)] ++ l.drop k) := by
            show _ = _
            exact insP_at (x, y) l k hk HT.out fun z hz => by have := HX.out; rw [hz] at this; injection this with this; subst this; exact hlx
          have hbq := below_drewN hb nq
          clear a1 a2 hd t0 ht HX
          generalize wr.drewN nq = wq at *
          go_upto_region 4 with fail
          have hz0 : Below wA.heap.size wA (wq.alloc (.cells #[] 53)) := hbq.alloc hbq.size _
          obtain ⟨v1, w1, hr1, ho1, hgr1⟩ := app_seats (wq.alloc (.cells #[] 53)) wA.heap.size _ [] (World.ownsRow_made wq #[] 0 hbq.size (Nat.zero_le _) rfl) (some ⟨g, 0, none⟩) ca (l.take k) ((hI.below hz0).take k) (by simp) (by simp; try omega) hz0.size k (by simp; try omega)
          simp only [List.nil_append] at ho1
          have b1 : Below wA.heap.size wA w1 := hz0.grown hgr1 hz0.size (fun k e => by simp [Value.ownBlock] at e; have := hbq.size; omega)
          go_upto_region 5 with (at_builtin; refine wpList_append_run rfl _ _ 22 rfl _ _ v1 w1 rfl rfl hr1 ?_)
          clear hr1 hgr1 hz0
          have k1 := kS.below b1 kS.lt
          have s0 := (k1.cell 0).trans rfl
          have s1 := (k1.cell 1).trans rfl
          have zs := k1.lt
          have hz1 : Below wA.heap.size wA (w1.alloc (.cells #[.int .i64 x, .int .i64 y] 53)) := b1.alloc b1.size _
          obtain ⟨v2, w2, hr2, ho2, hgr2⟩ := app_seats (w1.alloc (.cells #[.int .i64 x, .int .i64 y] 53)) wA.heap.size v1 _ (ho1.alloc _) (some ⟨w1.heap.size, 0, none⟩) 1 [(x, y)] (SeatsAt.blk (Blk.new _ _ _)) (by simp; try omega) (by simp) hz1.size 1 rfl
          have b2 : Below wA.heap.size wA w2 := hz1.grown hgr2 hz1.size (fun k e => (ho1.lt k e).1)
          go_upto_region 6 with (at_builtin; refine wpList_append_run rfl _ _ 22 rfl _ _ v2 w2 rfl rfl hr2 ?_)
          clear hr2 hgr2 hz1 ho1 s0 s1
          obtain ⟨v3, w3, hr3, ho3, hgr3⟩ := app_seats w2 wA.heap.size v2 _ ho2 (some ⟨g, k * 2, none⟩) (ca - k) (l.drop k) (by have h9 := (hI.below b2).drop k; rw [Nat.zero_add] at h9; exact h9) (by simp; try omega) (by simp; try omega) b2.size (l.length - k) (by simp)
          have b3 : Below wA.heap.size wA w3 := b2.grown hgr3 b2.size (fun k e => (ho2.lt k e).1)
          go_wp2_with (at_builtin; refine wpList_append_run rfl _ _ 22 rfl _ _ v3 w3 rfl rfl hr3 ?_)
          all_goals
            go_ret
            exact ⟨⟨v3, rfl, by rw [HE.out]; exact owns_base ho3 bA.size⟩, bA.trans (b3.mono bA.size)⟩
      · have hge : ¬ (k : Int) < (l.length : Int) := by omega
        have hd : decide ((k : Int) < (l.length : Int)) = false := by simpa using hge
        go_upto_region 2 with fail
        go_quiet (fail)
        have HE : Hid (insP (x, y) l = l.take k ++ [(x, y)] ++ l.drop k) := by
          show _ = _
          exact insP_at (x, y) l k hk HT.out fun z hz => by rw [List.getElem?_eq_none (by omega)] at hz; cases hz
        have hbq := below_drewN hb nq
        clear hd t0
        generalize wr.drewN nq = wq at *
        go_upto_region 4 with fail
        have hz0 : Below wA.heap.size wA (wq.alloc (.cells #[] 53)) := hbq.alloc hbq.size _
        obtain ⟨v1, w1, hr1, ho1, hgr1⟩ := app_seats (wq.alloc (.cells #[] 53)) wA.heap.size _ [] (World.ownsRow_made wq #[] 0 hbq.size (Nat.zero_le _) rfl) (some ⟨g, 0, none⟩) ca (l.take k) ((hI.below hz0).take k) (by simp) (by simp; try omega) hz0.size k (by simp; try omega)
        simp only [List.nil_append] at ho1
        have b1 : Below wA.heap.size wA w1 := hz0.grown hgr1 hz0.size (fun k e => by simp [Value.ownBlock] at e; have := hbq.size; omega)
        go_upto_region 5 with (at_builtin; refine wpList_append_run rfl _ _ 22 rfl _ _ v1 w1 rfl rfl hr1 ?_)
        clear hr1 hgr1 hz0
        have k1 := kS.below b1 kS.lt
        have s0 := (k1.cell 0).trans rfl
        have s1 := (k1.cell 1).trans rfl
        have zs := k1.lt
        have hz1 : Below wA.heap.size wA (w1.alloc (.cells #[.int .i64 x, .int .i64 y] 53)) := b1.alloc b1.size _
        obtain ⟨v2, w2, hr2, ho2, hgr2⟩ := app_seats (w1.alloc (.cells #[.int .i64 x, .int .i64 y] 53)) wA.heap.size v1 _ (ho1.alloc _) (some ⟨w1.heap.size, 0, none⟩) 1 [(x, y)] (SeatsAt.blk (Blk.new _ _ _)) (by simp; try omega) (by simp) hz1.size 1 rfl
        have b2 : Below wA.heap.size wA w2 := hz1.grown hgr2 hz1.size (fun k e => (ho1.lt k e).1)
        go_upto_region 6 with (at_builtin; refine wpList_append_run rfl _ _ 22 rfl _ _ v2 w2 rfl rfl hr2 ?_)
        clear hr2 hgr2 hz1 ho1 s0 s1
        obtain ⟨v3, w3, hr3, ho3, hgr3⟩ := app_seats w2 wA.heap.size v2 _ ho2 (if ca = k then some ⟨g, 0, none⟩ else some ⟨g, k * 2, none⟩) (ca - k) (l.drop k) (.inl (by simp; omega)) (by simp; try omega) (by simp; try omega) b2.size (l.length - k) (by simp)
        have b3 : Below wA.heap.size wA w3 := b2.grown hgr3 b2.size (fun k e => (ho2.lt k e).1)
        go_wp2_with (at_builtin; refine wpList_append_run rfl _ _ 22 rfl _ _ v3 w3 rfl rfl hr3 ?_)
        all_goals
          go_ret
          exact ⟨⟨v3, rfl, by rw [HE.out]; exact owns_base ho3 bA.size⟩, bA.trans (b3.mono bA.size)⟩
end Go.Proofs.Ytimcddknoanghaa
