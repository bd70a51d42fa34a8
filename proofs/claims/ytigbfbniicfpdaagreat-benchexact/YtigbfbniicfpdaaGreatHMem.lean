/- The heap of seats: in memory; its methods. -/
import Derived.Test.YtigbfbniicfpdaaGreatHMeth
import Derived.Test.YtigbfbniicfpdaaGreatTLate
import Derived.Deep.RegionHeld3
namespace Go.Proofs.YtigbfbniicfpdaaGreat
open Go.RowKit
set_option linter.unusedVariables false
set_option linter.unusedSimpArgs false

/-- Which of two gives way first. -/
def lessP (a b : Int × Int) : Bool := if a.2 ≠ b.2 then decide (a.2 < b.2) else decide (b.1 < a.1)

/-- All below base is as it was, and mb. -/
def Hk (base mb : Nat) (w w' : World) : Prop := Below base w w' ∧ w'.heap[mb]? = w.heap[mb]?
theorem Hk.refl (base mb : Nat) (w : World) : Hk base mb w w := ⟨Below.refl _ _, rfl⟩
theorem Hk.trans {base mb : Nat} {a b c : World} (h : Hk base mb a b) (k : Hk base mb b c) : Hk base mb a c := ⟨h.1.trans k.1, k.2.trans h.2⟩
theorem Hk.of {base mb : Nat} {a b : World} (h : Below a.heap.size a b) (h1 : base ≤ a.heap.size) (h2 : mb < a.heap.size) : Hk base mb a b := ⟨h.mono h1, h.block mb h2⟩
theorem Hk.set {base mb : Nat} {a b : World} (h : Hk base mb a b) {p : Addr} (hp : base ≤ p.block ∧ p.block ≠ mb) (v : Value) : Hk base mb a (b.setCell p v) := by
  refine ⟨h.1.setCell hp.1 v, ?_⟩
  rw [Below.heap_setCell _ _ _ _ (Ne.symm hp.2)]
  exact h.2

/-- The heap: the variable at hb holds the slice of l. -/
structure HpAt (w : World) (base hb mb : Nat) (l : List (Int × Int)) (sa : Option Addr) (sc : Nat) : Prop where
  k : Blk w hb #[.slice sa l.length sc] 36
  own : w.ownsRow base 39 2 (.slice sa l.length sc) l.length (flatS l)
  ne : ∀ a, sa = some a → a.block ≠ hb ∧ a.block ≠ mb
  lo : base ≤ hb ∧ hb ≠ mb
  mh : mb < w.heap.size
theorem HpAt.hi {w : World} {base hb mb : Nat} {l : List (Int × Int)} {sa : Option Addr} {sc : Nat} (h : HpAt w base hb mb l sa sc) : base ≤ w.heap.size := by have := h.k.lt; have := h.lo.1; omega
theorem HpAt.next {w w' : World} {base hb mb : Nat} {l : List (Int × Int)} {sa : Option Addr} {sc : Nat} (h : HpAt w base hb mb l sa sc) (hb2 : Below w.heap.size w w') : HpAt w' base hb mb l sa sc := ⟨h.k.below hb2 h.k.lt, owns_keep h.own hb2, h.ne, h.lo, Nat.lt_of_lt_of_le h.mh hb2.size⟩
theorem HpAt.at_ {w : World} {base hb mb : Nat} {l : List (Int × Int)} {sa : Option Addr} {sc : Nat} (h : HpAt w base hb mb l sa sc) : SeatsAt w sa l := by
  obtain ⟨la, cap, e, hs⟩ := SeatsAt.of_owns h.own
  injection e with e1 e2 e3
  subst e1
  exact hs
/-- Its row. -/
theorem HpAt.row {w : World} {base hb mb : Nat} {l : List (Int × Int)} {sa : Option Addr} {sc : Nat} (h : HpAt w base hb mb l sa sc) (hz : l ≠ []) : ∃ g cur, sa = some ⟨g, 0, none⟩ ∧ base ≤ g ∧ Blk w g cur 39 ∧ cur.size = sc * 2 ∧ l.length ≤ sc ∧ sc ≤ maxLen ∧ cur.toList.take (l.length * 2) = flatS l := by
  rcases h.own.2 with ⟨e, h0⟩ | ⟨g, cap, cur, e, h1, h2, h3, h4, h5, h6⟩
  · exact absurd (List.eq_nil_of_length_eq_zero h0) hz
  · injection e with e1 e2 e3
    subst e1 e3
    exact ⟨g, cur, rfl, h1, h2, h5, h3, h4, h6⟩
theorem flatS_set (l : List (Int × Int)) : ∀ (i : Nat) (x : Int × Int), i < l.length → ((flatS l).set (i * 2) (.int .i64 x.1)).set (i * 2 + 1) (.int .i64 x.2) = flatS (l.set i x) := by
  induction l with
  | nil => intro i x h; simp at h
  | cons y r ih =>
    intro i x h
    have e : flatS (y :: r) = .int .i64 y.1 :: .int .i64 y.2 :: flatS r := rfl
    cases i with
    | zero => rfl
    | succ i =>
      rw [e, show (i + 1) * 2 = i * 2 + 1 + 1 by omega]
      simp only [List.set_cons_succ]
      rw [ih i x (by simpa using h)]
      rfl

/-- A seat of it is written. -/
theorem HpAt.put {w : World} {base hb mb : Nat} {l : List (Int × Int)} {g sc : Nat} (h : HpAt w base hb mb l (some ⟨g, 0, none⟩) sc) {i : Nat} (hi : i < l.length) (x : Int × Int) :
    HpAt ((w.setCell ⟨g, i * 2, none⟩ (.int .i64 x.1)).setCell ⟨g, i * 2 + 1, none⟩ (.int .i64 x.2)) base hb mb (l.set i x) (some ⟨g, 0, none⟩) sc := by
  obtain ⟨g', cur, e, hg, hk, hs, hle, hm, ht⟩ := h.row (by intro e; rw [e] at hi; simp at hi)
  injection e with e
  injection e with e1
  subst e1
  have k2 := (hk.set (i * 2) (.int .i64 x.1)).set (i * 2 + 1) (.int .i64 x.2)
  have hlen : (l.set i x).length = l.length := List.length_set
  have hgn : g ≠ hb := (h.ne _ rfl).1
  refine ⟨?_, ⟨?_, .inr ⟨g, sc, _, ?_, hg, k2, ?_, hm, ?_, ?_⟩⟩, h.ne, h.lo, ?_⟩
  · rw [hlen]
    exact (h.k.setOther _ (by simp only; omega) _).setOther _ (by simp only; omega) _
  · rw [← flatS_set l i x hi]
    simp only [List.length_set]
    exact flatS_len l
  · rfl
  · rw [hlen]; exact hle
  · simp [hs]
  · rw [hlen, ← flatS_set l i x hi, ← ht]
    simp only [Array.toList_setIfInBounds]
    rw [List.take_set, List.take_set]
  · have := h.mh
    simp [World.setCell]
    exact this

set_option maxHeartbeats 1600000 in
theorem less_any (sa : Option Addr) (sc : Nat) (l : List (Int × Int)) (i j : Nat) (hi : i < l.length) (hj : j < l.length) (hn : l.length ≤ 100) (w : World) (h : SeatsAt w sa l) :
    Calls Tryz.prog 115 #[.slice sa l.length sc, .int .i64 i, .int .i64 j] w fun e w' => e = .returned (.bool (lessP l[i] l[j])) ∧ Below w.heap.size w w' := by
  obtain ⟨b1, o1, e1, z1, a1, a2⟩ := h.one hi
  obtain ⟨b2, o2, e2, z2, d1, d2⟩ := h.one hj
  subst e1
  injection e2 with e2
  injection e2 with e3 e4
  subst e3 e4
  have hi' : (i : Int) < (l.length : Int) := by omega
  have hj' : (j : Int) < (l.length : Int) := by omega
  generalize l[i] = x at *
  generalize l[j] = y at *
  obtain ⟨xk, xv⟩ := x
  obtain ⟨yk, yv⟩ := y
  simp only at a1 a2 d1 d2
  by_cases hv : xv = yv
  · have hd : (xv != yv) = false := by simpa using hv
    have HF : Hid (lessP (xk, xv) (yk, yv) = decide (yk < xk)) := by show _ = _; unfold lessP; rw [if_neg (by simpa using hv)]
    clear hv
    go_enter Tryz.func115, Tryz.ntmps115
    go_upto_region 1 with fail
    go_quiet (fail)
    go_wp2_with fail
    go_quiet (fail)
    go_wp2
    go_ret
    exact ⟨by rw [HF.out]; rfl, below_drewN (below_drewN (Below.refl _ _) _) _⟩
  · have hd : (xv != yv) = true := by simpa using hv
    have HF : Hid (lessP (xk, xv) (yk, yv) = decide (xv < yv)) := by show _ = _; unfold lessP; rw [if_pos (by simpa using hv)]
    clear hv
    go_enter Tryz.func115, Tryz.ntmps115
    go_upto_region 1 with fail
    go_quiet (fail)
    go_wp2_with fail
    go_quiet (fail)
    go_wp2
    go_ret
    exact ⟨by rw [HF.out]; rfl, below_drewN (below_drewN (Below.refl _ _) _) _⟩

theorem len_any (sa : Option Addr) (sc n : Nat) (w : World) : Calls Tryz.prog 40 #[.slice sa n sc] w fun e w' => e = .returned (.int .i64 n) ∧ w = w' := by
  go_enter Tryz.func40, Tryz.ntmps40
  go_wp2
  go_ret
  exact ⟨rfl, rfl⟩

theorem wpAnyM_behind {P : Program} {md : Region.Mode} {ops : Array Oper} {Q : Exit → Act → World → Prop} {S : World → Prop} {m : Nat} {i : Nat} {oi : Oper} {v : Value} {n : Nat} {ls : Array Bool} {a : Act} {w : World} (hi : ops[i]? = some oi)
    (hs : Region.noSelect ops = true) (hf : Region.free md ops ls i = true) (hr : (Region.ready md ops ls).contains i = true) (him : i ≠ m) (hl : ls.getD m true = true)
    (hQ : ∀ c a w, Q (.panic c) (a.put oi.dst v) w → Q (.panic c) a w) (hy : YieldsIf P ops (fun _ => True) oi v a)
    (h : wpAnyM P md ops Q S m n (ls.setIfInBounds i true) (a.put oi.dst v) w) : wpAnyM P md ops Q S m (n + 1) ls a w :=
  wpAnyM_first (T := fun _ => True) hi (Region.noSelect_spec hs) hQ him n ls a w (.inl fun _ => trivial) (Region.free_spec hi hf) (by simpa using hr) hy (fun q => by rw [hl] at q; cases q) h

set_option maxHeartbeats 1600000 in
theorem swap_any (g sc : Nat) (l : List (Int × Int)) (i j : Nat) (hi : i < l.length) (hj : j < l.length) (hij : i ≠ j) (hn : l.length ≤ 100) (base hb mb : Nat) (w : World) (H : HpAt w base hb mb l (some ⟨g, 0, none⟩) sc) :
    Calls Tryz.prog 118 #[.slice (some ⟨g, 0, none⟩) l.length sc, .int .i64 i, .int .i64 j] w fun e w' => e = .returned (.tuple #[]) ∧ HpAt w' base hb mb ((l.set i l[j]).set j l[i]) (some ⟨g, 0, none⟩) sc ∧ Hk base mb w w' := by
  obtain ⟨g', cur, e, hg, hk, hs, hle, hm, ht⟩ := H.row (by intro e; rw [e] at hi; simp at hi)
  injection e with e
  injection e with e1
  subst e1
  obtain ⟨b1, o1, e1, z1, a1, a2⟩ := H.at_.one hi
  injection e1 with e1
  injection e1 with e2 e3
  subst e2 e3
  obtain ⟨b2, o2, e1, z2, d1, d2⟩ := H.at_.one hj
  injection e1 with e1
  injection e1 with e2 e3
  subst e2 e3
  have hi' : (i : Int) < (l.length : Int) := by omega
  have hj' : (j : Int) < (l.length : Int) := by omega
  have F1 := hk.frozen (i * 2)
  have F2 := hk.frozen (i * 2 + 1)
  have F3 := hk.frozen (j * 2)
  have F4 := hk.frozen (j * 2 + 1)
  have hgm : g ≠ mb := (H.ne _ rfl).2
  have H1 := H.put hi l[j]
  have H2 := H1.put (i := j) (by simpa using hj) l[i]
  have K2 : Hk base mb w ((((w.setCell ⟨g, i * 2, none⟩ (.int .i64 l[j].1)).setCell ⟨g, i * 2 + 1, none⟩ (.int .i64 l[j].2)).setCell ⟨g, j * 2, none⟩ (.int .i64 l[i].1)).setCell ⟨g, j * 2 + 1, none⟩ (.int .i64 l[i].2)) := ((((Hk.refl base mb w).set (p := ⟨g, i * 2, none⟩) ⟨hg, hgm⟩ _).set (p := ⟨g, i * 2 + 1, none⟩) ⟨hg, hgm⟩ _).set (p := ⟨g, j * 2, none⟩) ⟨hg, hgm⟩ _).set (p := ⟨g, j * 2 + 1, none⟩) ⟨hg, hgm⟩ _
  simp only [Nat.zero_add] at a1 a2 d1 d2
  generalize l[i] = x at *
  generalize l[j] = y at *
  obtain ⟨xk, xv⟩ := x
  obtain ⟨yk, yv⟩ := y
  simp only at a1 a2 d1 d2 H2 K2
  have S0 : w.drew.cell? ⟨g, i * 2, none⟩ = some (.int .i64 xk) ∧ w.drew.cell? ⟨g, i * 2 + 1, none⟩ = some (.int .i64 xv) ∧ w.drew.cell? ⟨g, j * 2, none⟩ = some (.int .i64 yk) ∧ w.drew.cell? ⟨g, j * 2 + 1, none⟩ = some (.int .i64 yv) := ⟨a1, a2, d1, d2⟩
  clear H1 ht
  go_enter Tryz.func118, Tryz.ntmps118
  go_upto_region 0 with fail
  refine wp_region_late (fun w' => w'.cell? ⟨g, i * 2, none⟩ = some (.int .i64 xk) ∧ w'.cell? ⟨g, i * 2 + 1, none⟩ = some (.int .i64 xv) ∧ w'.cell? ⟨g, j * 2, none⟩ = some (.int .i64 yk) ∧ w'.cell? ⟨g, j * 2 + 1, none⟩ = some (.int .i64 yv)) 13 (by kernel_rfl) ?_
  refine wpAnyM_pure (i := 0) (v := ?_) rfl (by kernel_rfl) (by kernel_rfl) (by kernel_rfl) (by decide) (fun _ _ _ h => h) (Or.inl ⟨by kernel_rfl, ?_⟩) (by assumption) ?_
  rotate_left
  · intro w' _
    go_simp
    first | (with_reducible rfl) | done | assumption | skip
  simp only [Act.put, List.getElem_toArray, List.getElem_cons_succ, List.getElem_cons_zero, List.setIfInBounds_toArray, List.set_cons_zero, List.set_cons_succ]
  refine wpAnyM_pure (i := 1) (v := ?_) rfl (by kernel_rfl) (by kernel_rfl) (by kernel_rfl) (by decide) (fun _ _ _ h => h) (Or.inl ⟨by kernel_rfl, ?_⟩) (by assumption) ?_
  rotate_left
  · intro w' _
    go_simp
    first | (with_reducible rfl) | done | assumption | skip
  simp only [Act.put, List.getElem_toArray, List.getElem_cons_succ, List.getElem_cons_zero, List.setIfInBounds_toArray, List.set_cons_zero, List.set_cons_succ]
  refine wpAnyM_pure (i := 2) (v := ?_) rfl (by kernel_rfl) (by kernel_rfl) (by kernel_rfl) (by decide) (fun _ _ _ h => h) (Or.inl ⟨by kernel_rfl, ?_⟩) (by assumption) ?_
  rotate_left
  · intro w' _
    go_simp
    first | (with_reducible rfl) | done | assumption | skip
  simp only [Act.put, List.getElem_toArray, List.getElem_cons_succ, List.getElem_cons_zero, List.setIfInBounds_toArray, List.set_cons_zero, List.set_cons_succ]
  refine wpAnyM_pure (i := 3) (v := ?_) rfl (by kernel_rfl) (by kernel_rfl) (by kernel_rfl) (by decide) (fun _ _ _ h => h) (Or.inl ⟨by kernel_rfl, ?_⟩) (by assumption) ?_
  rotate_left
  · intro w' _
    go_simp
    first | (with_reducible rfl) | done | assumption | skip
  simp only [Act.put, List.getElem_toArray, List.getElem_cons_succ, List.getElem_cons_zero, List.setIfInBounds_toArray, List.set_cons_zero, List.set_cons_succ]
  refine wpAnyM_pure (i := 4) (v := ?_) rfl (by kernel_rfl) (by kernel_rfl) (by kernel_rfl) (by decide) (fun _ _ _ h => h) (Or.inl ⟨by kernel_rfl, ?_⟩) (by assumption) ?_
  rotate_left
  · intro w' _
    go_simp
    first | (with_reducible rfl) | done | assumption | skip
  simp only [Act.put, List.getElem_toArray, List.getElem_cons_succ, List.getElem_cons_zero, List.setIfInBounds_toArray, List.set_cons_zero, List.set_cons_succ]
  refine wpAnyM_pure (i := 5) (v := ?_) rfl (by kernel_rfl) (by kernel_rfl) (by kernel_rfl) (by decide) (fun _ _ _ h => h) (Or.inl ⟨by kernel_rfl, ?_⟩) (by assumption) ?_
  rotate_left
  · intro w' _
    go_simp
    first | (with_reducible rfl) | done | assumption | skip
  simp only [Act.put, List.getElem_toArray, List.getElem_cons_succ, List.getElem_cons_zero, List.setIfInBounds_toArray, List.set_cons_zero, List.set_cons_succ]
  refine wpAnyM_pure (i := 6) (v := ?_) rfl (by kernel_rfl) (by kernel_rfl) (by kernel_rfl) (by decide) (fun _ _ _ h => h) (Or.inl ⟨by kernel_rfl, ?_⟩) (by assumption) ?_
  rotate_left
  · intro w' _
    go_simp
    first | (with_reducible rfl) | done | assumption | skip
  simp only [Act.put, List.getElem_toArray, List.getElem_cons_succ, List.getElem_cons_zero, List.setIfInBounds_toArray, List.set_cons_zero, List.set_cons_succ]
  refine wpAnyM_take (i := 7) (v := .agg #[.int .i64 yk, .int .i64 yv]) rfl (by kernel_rfl) (by kernel_rfl) (by kernel_rfl) (by kernel_rfl) (by decide) (by kernel_rfl) (fun _ _ _ h => h) (Or.inl ⟨by kernel_rfl, ?_⟩) (by assumption) ?_
  · rintro w' ⟨y1, y2, y3, y4⟩
    go_simp
    first | (with_reducible rfl) | done | assumption | skip
  simp only [Act.put, List.getElem_toArray, List.getElem_cons_succ, List.getElem_cons_zero, List.setIfInBounds_toArray, List.set_cons_zero, List.set_cons_succ]
  refine wpAnyM_pure (i := 8) (v := ?_) rfl (by kernel_rfl) (by kernel_rfl) (by kernel_rfl) (by decide) (fun _ _ _ h => h) (Or.inl ⟨by kernel_rfl, ?_⟩) (by assumption) ?_
  rotate_left
  · intro w' _
    go_simp
    first | (with_reducible rfl) | done | assumption | skip
  simp only [Act.put, List.getElem_toArray, List.getElem_cons_succ, List.getElem_cons_zero, List.setIfInBounds_toArray, List.set_cons_zero, List.set_cons_succ]
  refine wpAnyM_pure (i := 9) (v := ?_) rfl (by kernel_rfl) (by kernel_rfl) (by kernel_rfl) (by decide) (fun _ _ _ h => h) (Or.inl ⟨by kernel_rfl, ?_⟩) (by assumption) ?_
  rotate_left
  · intro w' _
    go_simp
    first | (with_reducible rfl) | done | assumption | skip
  simp only [Act.put, List.getElem_toArray, List.getElem_cons_succ, List.getElem_cons_zero, List.setIfInBounds_toArray, List.set_cons_zero, List.set_cons_succ]
  refine wpAnyM_pure (i := 10) (v := ?_) rfl (by kernel_rfl) (by kernel_rfl) (by kernel_rfl) (by decide) (fun _ _ _ h => h) (Or.inl ⟨by kernel_rfl, ?_⟩) (by assumption) ?_
  rotate_left
  · intro w' _
    go_simp
    first | (with_reducible rfl) | done | assumption | skip
  simp only [Act.put, List.getElem_toArray, List.getElem_cons_succ, List.getElem_cons_zero, List.setIfInBounds_toArray, List.set_cons_zero, List.set_cons_succ]
  refine wpAnyM_take (i := 11) (v := .agg #[.int .i64 xk, .int .i64 xv]) rfl (by kernel_rfl) (by kernel_rfl) (by kernel_rfl) (by kernel_rfl) (by decide) (by kernel_rfl) (fun _ _ _ h => h) (Or.inl ⟨by kernel_rfl, ?_⟩) (by assumption) ?_
  · rintro w' ⟨y1, y2, y3, y4⟩
    go_simp
    first | (with_reducible rfl) | done | assumption | skip
  simp only [Act.put, List.getElem_toArray, List.getElem_cons_succ, List.getElem_cons_zero, List.setIfInBounds_toArray, List.set_cons_zero, List.set_cons_succ]
  refine wpAnyM_pure (i := 12) (v := ?_) rfl (by kernel_rfl) (by kernel_rfl) (by kernel_rfl) (by decide) (fun _ _ _ h => h) (Or.inl ⟨by kernel_rfl, ?_⟩) (by assumption) ?_
  rotate_left
  · intro w' _
    go_simp
    first | (with_reducible rfl) | done | assumption | skip
  simp only [Act.put, List.getElem_toArray, List.getElem_cons_succ, List.getElem_cons_zero, List.setIfInBounds_toArray, List.set_cons_zero, List.set_cons_succ]
  refine wpAnyM_one (i := 13) (by kernel_rfl) ?_
  refine wpOp_step rfl (fun K hK => ?_)
  go_simp
  refine hK _ _ ⟨fun h => absurd h (by decide), ?_⟩
  clear hK K
  try simp only [Act.put, List.getElem_toArray, List.getElem_cons_succ, List.getElem_cons_zero, List.setIfInBounds_toArray, List.set_cons_zero, List.set_cons_succ]
  refine wpAnyM_behind (i := 14) (v := ?_) rfl (by kernel_rfl) (by kernel_rfl) (by kernel_rfl) (by decide) (by kernel_rfl) (fun _ _ _ h => h) (Or.inl ⟨by kernel_rfl, ?_⟩) ?_
  rotate_left
  · intro w' _
    go_simp
    first | (with_reducible rfl) | done | assumption | skip
  simp only [Act.put, List.getElem_toArray, List.getElem_cons_succ, List.getElem_cons_zero, List.setIfInBounds_toArray, List.set_cons_zero, List.set_cons_succ]
  have D1 : ((w.setCell ⟨g, i * 2, none⟩ (.int .i64 yk)).setCell ⟨g, i * 2 + 1, none⟩ (.int .i64 yv)).cell? ⟨g, j * 2, none⟩ = some (.int .i64 yk) := by
    rw [World.cell?_setCell_other _ _ _ _ (by intro e; injection e with e1 e2; omega), World.cell?_setCell_other _ _ _ _ (by intro e; injection e with e1 e2; omega)]; exact d1
  have D2 : ((w.setCell ⟨g, i * 2, none⟩ (.int .i64 yk)).setCell ⟨g, i * 2 + 1, none⟩ (.int .i64 yv)).cell? ⟨g, j * 2 + 1, none⟩ = some (.int .i64 yv) := by
    rw [World.cell?_setCell_other _ _ _ _ (by intro e; injection e with e1 e2; omega), World.cell?_setCell_other _ _ _ _ (by intro e; injection e with e1 e2; omega)]; exact d2
  have D3 := ((hk.set (i * 2) (.int .i64 yk)).set (i * 2 + 1) (.int .i64 yv)).frozen (j * 2)
  have D4 := ((hk.set (i * 2) (.int .i64 yk)).set (i * 2 + 1) (.int .i64 yv)).frozen (j * 2 + 1)
  have kkk := ((hk.set (i * 2) (.int .i64 yk)).set (i * 2 + 1) (.int .i64 yv)).lt
  have HH := show Hid (_ ∧ _) from ⟨H2, K2⟩
  clear H2 K2 H
  generalize hwx : ((w.setCell ⟨g, i * 2, none⟩ (.int .i64 yk)).setCell ⟨g, i * 2 + 1, none⟩ (.int .i64 yv)) = wx at *
  clear S0 a1 a2 d1 d2 F1 F2 F3 F4
  refine wpAnyM_one (i := 15) (by kernel_rfl) ?_
  refine wpOp_step rfl (fun K hK => ?_)
  go_simp
  refine hK _ _ ⟨fun h => absurd h (by decide), ?_⟩
  clear hK K
  refine wpAnyM_done (by kernel_rfl) ?_ _
  try simp only [Exit.then]
  go_end0
  subst hwx
  exact ⟨rfl, HH.out.1.next ((Below.refl _ _).drew), HH.out.2.trans (Hk.of ((Below.refl _ _).drew) HH.out.1.hi HH.out.1.mh)⟩
end Go.Proofs.YtigbfbniicfpdaaGreat
