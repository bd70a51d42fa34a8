/- The answer's Wants. -/
import Derived.Test.YtmhllihedejehaaGreatM18
import Derived.Test.YtmhllihedejehaaGreatFWants
import Derived.Maps.AppendAt

namespace Go.Proofs.YtmhllihedejehaaGreat
open Go.RowKit
set_option linter.unusedVariables false
set_option linter.unusedSimpArgs false

theorem wp_append_run {P : Program} {w : World} {o : Oper} {a : Act} {K : Act → World → Prop} {Q : Exit → Act → World → Prop} (s x : Operand) (t : TypeId) (ho : o.op = .call { callee := .builtin .append, args := #[s, x], argTypes := #[t, t] })
    (v1 v2 v : Value) (w' : World) (hs : a.eval s = v1) (hx : a.eval x = v2) (hr : (Builtin.append_ #[t, t] o.type #[v1, v2]).run P w = .ok v w') (h : K (a.put o.dst v) w') : o.wp P a w K Q := by
  unfold Oper.wp execOp
  simp only [ho, resolve, invoke, builtin, Sem.run_bind, Sem.run_pure, Result.andThen_ok, List.map_toArray, List.map_cons, List.map_nil, hs, hx, hr]
  exact h

theorem wpList_append_run {P : Program} {w : World} {ops : Array Oper} {rest : List Oper} {o : Oper} {a : Act} {Q : Exit → Act → World → Prop} (hgd : o.guard = none) (s x : Operand) (t : TypeId) (ho : o.op = .call { callee := .builtin .append, args := #[s, x], argTypes := #[t, t] })
    (v1 v2 v : Value) (w' : World) (hs : a.eval s = v1) (hx : a.eval x = v2) (hr : (Builtin.append_ #[t, t] o.type #[v1, v2]).run P w = .ok v w') (h : wpList P ops Q rest (a.put o.dst v) w') : wpList P ops Q (o :: rest) a w :=
  wpList_plain hgd fun _ hK => wp_append_run s x t ho v1 v2 v w' hs hx hr (hK _ _ h)

set_option maxRecDepth 8000 in
set_option maxHeartbeats 3200000 in
theorem rwants_any (gb base : Nat) (wd root m : Int) (L : List (Key × Int)) (o : Option Tr) (bar : List Int) (vL vB : Value) (li : Option Addr) (ci : Nat) (w : World) (hm : 0 ≤ m ∧ m ≤ 1000000) (hL : L.length ≤ 1000000) (H : RFet w base gb wd root L o bar vL vB li ci) :
    Calls Tryz.prog 11 #[.pointer (some ⟨gb, 0, none⟩), .int .i64 m] w fun e w' => ∃ v, e = .returned v ∧ w'.ownsRow w.heap.size 9 1 v ((L.map Prod.fst).take m.toNat).length (strs ((L.map Prod.fst).take m.toNat)) ∧ Below w.heap.size w w' := by
  obtain ⟨i0, hi, hz0, hz1, hz2⟩ := info_parts infoStr
  obtain ⟨sa, sc, rfl⟩ := slice_of H.wl
  go_enter Tryz.func11, Tryz.ntmps11
  go_wp2_with fail
  go_loopw [5, 6] (fun ov iv wv => ∃ (i : Nat) (v : Value), i ≤ L.length ∧ (i : Int) ≤ m ∧ iv = .int .i64 i ∧ ov = v ∧ wv.ownsRow w.heap.size 9 1 v i (strs ((L.map Prod.fst).take i)) ∧ Below w.heap.size w wv) (fun _ iv _ => L.length - (intOf iv).toNat)
  case atStart => exact ⟨0, _, Nat.zero_le _, by omega, rfl, rfl, World.ownsRow_nil _ _ _ _, Below.refl _ _⟩
  case round =>
    obtain ⟨i, v, hil, him, rfl, e9, hr, hb⟩ := hrel
    obtain rfl := e9.symm
    have H1 := H.below hb
    have c2 := (H1.k.cell 2).trans rfl
    have zg := H1.k.lt
    by_cases hlt : i < L.length ∧ (i : Int) < m
    · obtain ⟨h1, h2⟩ := hlt
      have h1' : (i : Int) < (L.length : Int) := by omega
      obtain ⟨f1, _⟩ := flatW_get L i h1
      obtain ⟨g, hg⟩ : ∃ g, sa = some ⟨g, 0, none⟩ := by
        rcases H1.wl.2 with ⟨_, h0⟩ | ⟨g, cap, cur, e, _⟩
        · rw [h0] at h1; cases h1
        · injection e with e; exact ⟨g, e⟩
      subst hg
      have hc := H1.wl.cells (g := g) rfl _ _ f1
      rw [show (⟨g, 0, none⟩ : Addr).add (i * 2) = ⟨g, i * 2, none⟩ by unfold Addr.add; split <;> simp_all] at hc
      have zw : g < wr.heap.size := by
        have := World.block_lt_of_cell? wr _ hc
        exact this
      have hst : (L.map Prod.fst).take (i + 1) = (L.map Prod.fst).take i ++ [L[i].1] := by
        rw [List.take_succ_eq_append_getElem (by simpa using h1)]
        simp
      generalize L[i].1 = way at *
      have hsw : w.heap.size ≤ wr.heap.size := hb.size
      obtain ⟨v', w', hrun, hown', hgrow, _, _⟩ := run_append_own_at (P := Tryz.prog) (wr.alloc (.cells #[.string (str way)] 9)) w.heap.size 44 44 9 i0 (.string ⟨#[]⟩) 1 16 Tryz.underlying44 hi hz0 hz1 hz2 rfl (by omega) _ _ _ (hr.alloc _) ⟨wr.heap.size, 0, none⟩ 1 1 [.string (str way)] rfl (fun j u hj => by
        cases j with
        | zero => simp at hj; subst hj; simp [Addr.add]
        | succ j => simp at hj) (fun u hu => by simp at hu; subst hu; rfl) (by unfold maxLen; omega) (by omega) (by simp; omega)
      have hb' : Below w.heap.size w w' := (hb.alloc hsw _).grown hgrow (by simp; omega) (fun j e => (hr.lt j e).1)
      have HO : Hid (w'.ownsRow w.heap.size 9 1 v' (i + 1) (strs ((L.map Prod.fst).take (i + 1)))) := by
        rw [hst]
        unfold strs at hown' ⊢
        rw [List.map_append]
        exact hown'
      clear H1 hr hown' hgrow f1 hst
      go_wp2_with (at_builtin; refine wpList_append_run rfl _ _ 44 rfl _ _ v' w' rfl rfl hrun ?_)
      exact ⟨⟨i + 1, v', by omega, by omega, by go_num, rfl, HO.out, hb'⟩, by simp [intOf]; omega⟩
    · have HT : Hid ((L.map Prod.fst).take m.toNat = (L.map Prod.fst).take i ∧ ((L.map Prod.fst).take i).length = i) := by
        refine ⟨?_, by simp; omega⟩
        by_cases h1 : i < L.length
        · have : m.toNat = i := by omega
          rw [this]
        · rw [List.take_of_length_le (by simp; omega), List.take_of_length_le (by simp; omega)]
      have HR : Hid (wr.ownsRow w.heap.size 9 1 v i (strs ((L.map Prod.fst).take i))) := hr
      clear H1 hr
      by_cases h1 : i < L.length
      · have h1' : (i : Int) < (L.length : Int) := by omega
        have h2' : ¬ (i : Int) < m := by omega
        go_wp2
        go_ret
        have e2 : min m.toNat L.length = i := by
          have q1 := congrArg List.length HT.out.1
          have q2 := HT.out.2
          simp only [List.length_take, List.length_map] at q1 q2
          omega
        refine ⟨v, rfl, ?_, hb⟩
        try simp only [List.length_take, List.length_map]
        rw [HT.out.1, e2]
        exact HR.out
      · have h1' : ¬ (i : Int) < (L.length : Int) := by omega
        go_wp2
        go_ret
        have e2 : min m.toNat L.length = i := by
          have q1 := congrArg List.length HT.out.1
          have q2 := HT.out.2
          simp only [List.length_take, List.length_map] at q1 q2
          omega
        refine ⟨v, rfl, ?_, hb⟩
        try simp only [List.length_take, List.length_map]
        rw [HT.out.1, e2]
        exact HR.out
end Go.Proofs.YtmhllihedejehaaGreat

namespace Go.Proofs.YtmhllihedejehaaGreat
open Go.RowKit
set_option linter.unusedVariables false
set_option linter.unusedSimpArgs false

/-- These cells lie behind an address, if there are any. -/
def CellsF (w : World) (la : Option Addr) (ys : List Value) : Prop := ys = [] ∨ ∃ b off, la = some ⟨b, off, none⟩ ∧ b < w.heap.size ∧ ∀ j u, ys[j]? = some u → w.cell? ⟨b, off + j, none⟩ = some u
theorem app_row {P : Program} (w : World) (base : Nat) (t e : TypeId) (i : TypeInfo) (z : Value) (size bytes : Nat) (ht : P.underlying t = some (.slice e)) (hi : P.info? e = some i) (hz : i.zero = some z) (hsize : i.size = size) (hby : i.bytes = bytes) (hzs : z.cells.size = size) (hsz : 0 < size)
    (sv : Value) (n m : Nat) (xs ys : List Value) (hown : w.ownsRow base e size sv n xs) (la : Option Addr) (cap : Nat) (hm : ys.length = m * size) (hT : CellsF w la ys) (h1 : ∀ u ∈ ys, u.oneCell' = true) (h63 : n + m ≤ 1000000) (hbb : bytes ≤ 1000) (hb : base ≤ w.heap.size) :
    ∃ v w', (Builtin.append_ #[t, t] t #[sv, .slice la m cap]).run P w = .ok v w' ∧ w'.ownsRow base e size v (n + m) (xs ++ ys) ∧ w.grownBy w' sv.ownBlock := by
  have hbytes : (n + m) * bytes ≤ 140737488355328 := by
    have : (n + m) * bytes ≤ 1000000 * 1000 := Nat.mul_le_mul h63 hbb
    omega
  have h64 : n + m ≤ maxLen := by unfold maxLen; omega
  by_cases h0 : ys = []
  · subst h0
    have hm0 : m = 0 := by
      simp only [List.length_nil] at hm
      rcases Nat.eq_zero_or_pos m with q | q
      · exact q
      · have := Nat.mul_pos q hsz; omega
    subst hm0
    simp only [Nat.add_zero, List.append_nil]
    cases la with
    | none =>
      rcases hown.2 with ⟨rfl, hn⟩ | ⟨g, cg, cur, rfl, hg1, hg2, hg3, hg4, hg5, hg6⟩
      · exact ⟨_, w, by simp [Builtin.append_, run_underlying ht, sizeOf, typeInfo, hi, Builtin.lenOf, Builtin.firstCells, loadCells, loadCellsFrom], hown, ⟨rfl, rfl, rfl, Nat.le_refl _, fun _ _ _ => rfl⟩⟩
      · refine ⟨.slice (some ⟨g, 0, none⟩) n cg, w, ?_, hown, ⟨rfl, rfl, rfl, Nat.le_refl _, fun _ _ _ => rfl⟩⟩
        simp [Builtin.append_, run_underlying ht, sizeOf, typeInfo, hi, Builtin.lenOf, Builtin.firstCells, loadCells, loadCellsFrom]
        rw [if_pos hg3]
        simp [storeCells, Result.andThen]
    | some ad =>
      obtain ⟨v, w', hr, q1, q2, _⟩ := run_append_own_at (P := P) w base t t e i z size bytes ht hi hz hsize hby hzs hsz _ _ _ hown ad 0 cap [] (by simp) (by simp) (by simp) (by simpa using h64) (by simpa using hbytes) hb
      exact ⟨v, w', hr, by simpa using q1, q2⟩
  · rcases hT with q | ⟨b, off, rfl, hlt, hc⟩
    · exact absurd q h0
    · obtain ⟨v, w', hr, q1, q2, _⟩ := run_append_own_at (P := P) w base t t e i z size bytes ht hi hz hsize hby hzs hsz _ _ _ hown ⟨b, off, none⟩ m cap ys hm (fun j u hu => by
        have := hc j u hu
        rw [show (⟨b, off, none⟩ : Addr).add j = ⟨b, off + j, none⟩ by unfold Addr.add; split <;> simp_all]
        exact this) h1 h64 hbytes hb
      exact ⟨v, w', hr, q1, q2⟩
end Go.Proofs.YtmhllihedejehaaGreat

namespace Go.Proofs.YtmhllihedejehaaGreat
open Go.RowKit
set_option linter.unusedVariables false
set_option linter.unusedSimpArgs false

theorem infoIntG : (Tryz.prog.info? 3).map (fun i => (i.zero, i.size, i.bytes)) = some (some (.int .i64 0), 1, 8) := by kernel_rfl
theorem infoWantG : (Tryz.prog.info? 81).map (fun i => (i.zero, i.size, i.bytes)) = some (some (.agg #[.string ⟨#[]⟩, .int .u64 0]), 2, 24) := by kernel_rfl
theorem CellsF.below {w w' : World} {la : Option Addr} {ys : List Value} (h : CellsF w la ys) (hb : Below w.heap.size w w') : CellsF w' la ys := by
  rcases h with h | ⟨b, off, e, hl, hc⟩
  · exact .inl h
  · exact .inr ⟨b, off, e, Nat.lt_of_lt_of_le hl hb.size, fun j u hu => by rw [hb.cell (p := ⟨b, off + j, none⟩) hl]; exact hc j u hu⟩
theorem CellsF.take {w : World} {la : Option Addr} {ys : List Value} (h : CellsF w la ys) (j : Nat) : CellsF w la (ys.take j) := by
  rcases h with h | ⟨b, off, e, hl, hc⟩
  · exact .inl (by simp [h])
  · refine .inr ⟨b, off, e, hl, fun i u hu => hc i u ?_⟩
    have hi : i < (ys.take j).length := (List.getElem?_eq_some_iff.1 hu).1
    rw [List.length_take] at hi
    rwa [List.getElem?_take_of_lt (by omega)] at hu
theorem CellsF.drop {w : World} {g off : Nat} {ys : List Value} (h : CellsF w (some ⟨g, off, none⟩) ys) (j : Nat) : CellsF w (some ⟨g, off + j, none⟩) (ys.drop j) := by
  rcases h with h | ⟨b, o2, e, hl, hc⟩
  · exact .inl (by simp [h])
  · injection e with e
    injection e with e1 e2
    subst e1 e2
    refine .inr ⟨g, off + j, rfl, hl, fun i u hu => ?_⟩
    rw [List.getElem?_drop] at hu
    have := hc (j + i) u hu
    rw [show off + j + i = off + (j + i) by omega]
    exact this
theorem CellsF.of_row {w : World} {base : Nat} {e : TypeId} {size : Nat} {sa : Option Addr} {n n' sc : Nat} {xs : List Value} (h : w.ownsRow base e size (.slice sa n sc) n' xs) : CellsF w sa xs := by
  rcases h.2 with ⟨_, h0⟩ | ⟨g, cap, cur, e1, hb, hg, _⟩
  · left
    have h1 := h.1
    rw [h0] at h1
    exact List.eq_nil_of_length_eq_zero (by simpa using h1)
  · injection e1 with e1
    subst e1
    exact .inr ⟨g, 0, rfl, (Array.getElem?_eq_some_iff.1 hg).1, fun j u hu => by
      rw [Nat.zero_add, ← addG]
      exact h.cells (g := g) rfl j u hu⟩
theorem CellsF.blk {w : World} {b : Nat} {cs : List Value} {t : TypeId} (h : Blk w b cs.toArray t) : CellsF w (some ⟨b, 0, none⟩) cs := by
  refine .inr ⟨b, 0, rfl, h.lt, fun i u hu => ?_⟩
  rw [Nat.zero_add, h.cell i]
  simpa using hu
/-- A step: append of cells that lie behind an address. -/
theorem wpList_app_row {P : Program} {w : World} {ops : Array Oper} {rest : List Oper} {o : Oper} {a : Act} {Q : Exit → Act → World → Prop} (hgd : o.guard = none) (s x : Operand) (t : TypeId) (ho : o.op = .call { callee := .builtin .append, args := #[s, x], argTypes := #[t, t] })
    (hot : o.type = t) (sv : Value) (la : Option Addr) (m cap : Nat) (hs : a.eval s = sv) (hx : a.eval x = .slice la m cap) (base : Nat) (e : TypeId) (z : Value) (size bytes : Nat) (ht : P.underlying t = some (.slice e)) (hi : (P.info? e).map (fun i => (i.zero, i.size, i.bytes)) = some (some z, size, bytes)) (hzs : z.cells.size = size) (hsz : 0 < size)
    (n : Nat) (xs ys : List Value) (hown : w.ownsRow base e size sv n xs) (hm : ys.length = m * size) (hT : CellsF w la ys) (h1 : ∀ u ∈ ys, u.oneCell' = true) (h63 : n + m ≤ 1000000) (hbb : bytes ≤ 1000) (hb : base ≤ w.heap.size)
    (h : ∀ v w', w'.ownsRow base e size v (n + m) (xs ++ ys) → w.grownBy w' sv.ownBlock → wpList P ops Q rest (a.put o.dst v) w') : wpList P ops Q (o :: rest) a w := by
  obtain ⟨i, hi1, hi2, hi3, hi4⟩ := info_parts hi
  obtain ⟨v, w', hr, h2, h3⟩ := app_row (P := P) w base t e i z size bytes ht hi1 hi2 hi3 hi4 hzs hsz sv n m xs ys hown la cap hm hT h1 h63 hbb hb
  exact wpList_append_run hgd s x t ho sv _ v w' hs hx (by rw [hot]; exact hr) (h v w' h2 h3)
theorem flatI_one (l : List Int) : ∀ u ∈ flatI l, u.oneCell' = true := fun u hu => by
  obtain ⟨x, _, rfl⟩ := List.mem_map.1 hu
  rfl
theorem flatI_len (l : List Int) : (flatI l).length = l.length := by simp [flatI]
theorem flatI_take (l : List Int) (k : Nat) : (flatI l).take k = flatI (l.take k) := by simp [flatI, List.map_take]
theorem flatI_drop (l : List Int) (k : Nat) : (flatI l).drop k = flatI (l.drop k) := by simp [flatI, List.map_drop]
theorem flatI_app (l m : List Int) : flatI (l ++ m) = flatI l ++ flatI m := by simp [flatI]
theorem flatW_one : ∀ l : List (Key × Int), ∀ u ∈ flatW l, u.oneCell' = true
  | [], u, hu => by cases hu
  | x :: r, u, hu => by
    simp only [flatW, List.mem_cons] at hu
    rcases hu with rfl | rfl | hu
    · rfl
    · rfl
    · exact flatW_one r u hu
theorem flatW_take : ∀ (l : List (Key × Int)) (k : Nat), (flatW l).take (k * 2) = flatW (l.take k)
  | [], k => by simp [flatW]
  | x :: r, 0 => by simp [flatW]
  | x :: r, k + 1 => by
    have e : (k + 1) * 2 = k * 2 + 1 + 1 := by omega
    rw [e]
    simp only [flatW, List.take_succ_cons, flatW_take r k]
theorem flatW_drop : ∀ (l : List (Key × Int)) (k : Nat), (flatW l).drop (k * 2) = flatW (l.drop k)
  | [], k => by simp [flatW]
  | x :: r, 0 => by simp [flatW]
  | x :: r, k + 1 => by
    have e : (k + 1) * 2 = k * 2 + 1 + 1 := by omega
    rw [e]
    simp only [flatW, List.drop_succ_cons, flatW_drop r k]
/-- The row may be in any place. -/
theorem row_base {w : World} {base base' : Nat} {e : TypeId} {size : Nat} {v : Value} {n : Nat} {xs : List Value} (h : w.ownsRow base' e size v n xs) (hb : base ≤ base') : w.ownsRow base e size v n xs := by
  obtain ⟨h1, h2⟩ := h
  refine ⟨h1, ?_⟩
  rcases h2 with h2 | ⟨g, cap, cur, e1, h3, h4⟩
  · exact .inl h2
  · exact .inr ⟨g, cap, cur, e1, Nat.le_trans hb h3, h4⟩
end Go.Proofs.YtmhllihedejehaaGreat
