/- Prove under way: what is in memory. -/
import Derived.Test.YtcpjcjonlkgblaaM39
import Derived.Test.YtcpjcjonlkgblaaM05
import Derived.Test.YtcpjcjonlkgblaaM42
import Derived.RangeFuncBox
import Derived.Deep.AppendLies
import Derived.Deep.RegionHeld3
import Derived.Maps.AppendAt
import Derived.Test.YtcpjcjonlkgblaaM10

namespace Go.Proofs.Ytcpjcjonlkgblaa
open Go.RowKit
set_option linter.unusedVariables false
set_option linter.unusedSimpArgs false

theorem infoTurn : (Try.prog.info? 69).map (fun i => (i.zero, i.size, i.bytes)) = some (some (.agg #[.int .i64 0, .int .u64 0]), 2, 16) := by kernel_rfl

structure PrvAt (w : World) (P : Nat) (done : List (Int × Int)) (sv : Value) (W : World) : Prop where
  below : Below w.heap.size w W
  hP : w.heap.size + 2 = P
  res : Blk W (w.heap.size + 1) #[.slice none 0 0, .bool false, .string ⟨#[]⟩, .string ⟨#[]⟩] 25
  p : Blk W P #[sv, .bool false, .string ⟨#[]⟩, .string ⟨#[]⟩] 25
  row : W.ownsRow (P + 1) 69 2 sv done.length (flatT done)

theorem owns_keep {w w' : World} {base : Nat} {e : TypeId} {size : Nat} {v : Value} {n : Nat} {xs : List Value} (h : w.ownsRow base e size v n xs) (hb : Below w.heap.size w w') : w'.ownsRow base e size v n xs := by
  obtain ⟨h1, h2⟩ := h
  refine ⟨h1, ?_⟩
  rcases h2 with h2 | ⟨g, cap, cur, e1, h3, h4, h5⟩
  · exact .inl h2
  · exact .inr ⟨g, cap, cur, e1, h3, (hb.block g (Array.getElem?_eq_some_iff.1 h4).1).trans h4, h5⟩
theorem PrvAt.next {w : World} {P : Nat} {done : List (Int × Int)} {sv : Value} {W W' : World} (h : PrvAt w P done sv W) (hb : Below W.heap.size W W') : PrvAt w P done sv W' :=
  ⟨h.below.trans (hb.mono h.below.size), h.hP, h.res.below hb h.res.lt, h.p.below hb h.p.lt, owns_keep h.row hb⟩

/-- What the region's loads find. -/
def LastP (P nb cb : Nat) (sv : Value) (pl d : Int) (w' : World) : Prop := w'.cell? ⟨P, 0, none⟩ = some sv ∧ w'.cell? ⟨nb, 3, none⟩ = some (.int .i64 pl) ∧ w'.cell? ⟨cb, 0, none⟩ = some (.int .u64 d)

theorem PrvAt.lastP {w : World} {P nb cb : Nat} {done : List (Int × Int)} {sv : Value} {pl d : Int} {W : World} (h : PrvAt w P done sv W) (h1 : w.cell? ⟨nb, 3, none⟩ = some (.int .i64 pl)) (z1 : nb < w.heap.size) (h2 : w.cell? ⟨cb, 0, none⟩ = some (.int .u64 d)) (z2 : cb < w.heap.size) : LastP P nb cb sv pl d W :=
  ⟨(h.p.cell 0).trans rfl, (h.below.cell (p := ⟨nb, 3, none⟩) z1).trans h1, (h.below.cell (p := ⟨cb, 0, none⟩) z2).trans h2⟩

theorem PrvAt.grow {w : World} {P nb cb : Nat} {done : List (Int × Int)} {sv : Value} {pl d : Int} {W W4 : World} {g cg : Nat} {o : Obj} (h : PrvAt w P done sv W) (h1 : w.cell? ⟨nb, 3, none⟩ = some (.int .i64 pl)) (z1 : nb < w.heap.size) (h2 : w.cell? ⟨cb, 0, none⟩ = some (.int .u64 d)) (z2 : cb < w.heap.size)
    (hown : W4.ownsRow (P + 1) 69 2 (.slice (some ⟨g, 0, none⟩) (done.length + 1) cg) (done.length + 1) (flatT done ++ [.int .i64 pl, .int .u64 d])) (hgrow : (W.alloc o).grownBy W4 sv.ownBlock) :
    LastP P nb cb sv pl d W4 ∧ Blk W4 P #[sv, .bool false, .string ⟨#[]⟩, .string ⟨#[]⟩] 25 ∧ PrvAt w P (done ++ [(pl, d)]) (.slice (some ⟨g, 0, none⟩) (done.length + 1) cg) (W4.setCell ⟨P, 0, none⟩ (.slice (some ⟨g, 0, none⟩) (done.length + 1) cg)) := by
  have hP := h.hP
  have n1 : sv.ownBlock ≠ some P := fun e => by have := (h.row.lt P e).1; omega
  have n2 : sv.ownBlock ≠ some (w.heap.size + 1) := fun e => by have := (h.row.lt _ e).1; omega
  have p4 := (h.p.alloc o).grown hgrow n1
  have r4 := (h.res.alloc o).grown hgrow n2
  have b4 : Below w.heap.size w W4 := (h.below.alloc h.below.size o).grown hgrow (by have := h.below.size; simp; omega) (fun k e => by have := (h.row.lt k e).1; omega)
  have gne : g ≠ P := by have := (hown.lt g rfl).1; omega
  refine ⟨⟨(p4.cell 0).trans rfl, (b4.cell (p := ⟨nb, 3, none⟩) z1).trans h1, (b4.cell (p := ⟨cb, 0, none⟩) z2).trans h2⟩, p4, b4.setCell (p := ⟨P, 0, none⟩) (by show _ ≤ P; omega) _, hP, r4.setOther ⟨P, 0, none⟩ (by show _ ≠ P; omega) _, p4.set 0 _, ?_⟩
  rw [List.length_append, flatT_snoc]
  exact hown.kept (grownBy_setCell' W4 P _) (.inr (by simp only [Value.ownBlock]; intro e; injection e with e; exact gne e))
theorem TurnsAt.set {w : World} {la : Option Addr} {l : List (Int × Int)} {c : Nat} (h : TurnsAt w la l) (hne : l ≠ [] → ∀ b off, la = some ⟨b, off, none⟩ → c ≠ b) (i : Nat) (u : Value) : TurnsAt (w.setCell ⟨c, i, none⟩ u) la l := by
  by_cases h0 : l = []
  · exact .inl h0
  · rcases h with h | ⟨b, off, e, hl, hc⟩
    · exact .inl h
    · have hn := hne h0 b off e
      refine .inr ⟨b, off, e, by rw [size_setCell]; exact hl, fun j x hx => ?_⟩
      obtain ⟨h1, h2⟩ := hc j x hx
      exact ⟨by rw [cell_off _ _ _ hn]; exact h1, by rw [cell_off _ _ _ hn]; exact h2⟩
theorem PrvAt.rowAt {w : World} {P : Nat} {done : List (Int × Int)} {la : Option Addr} {n cap : Nat} {W : World} (h : PrvAt w P done (.slice la n cap) W) : done ≠ [] → ∀ b off, la = some ⟨b, off, none⟩ → P + 1 ≤ b := fun hd b off e => by
  rcases h.row.2 with ⟨_, h0⟩ | ⟨g, cg, cur, e0, hg1, _⟩
  · exact absurd (List.eq_nil_of_length_eq_zero h0) hd
  · injection e0 with e1 _ _
    rw [e] at e1
    injection e1 with e1
    injection e1 with e1 _
    omega
theorem cells_pr (w : World) (x y : Value) (ty : TypeId) (H : Nat) (hH : w.heap.size = H) : ∀ j u, ([x, y])[j]? = some u → (w.alloc (.cells #[x, y] ty)).cell? ((⟨H, 0, none⟩ : Addr).add j) = some u := by
  subst hH
  intro j u hj
  have hb := Blk.new w #[x, y] ty
  have ha : (⟨w.heap.size, 0, none⟩ : Addr).add j = ⟨w.heap.size, j, none⟩ := by unfold Addr.add; split <;> simp_all
  rw [ha, hb.cell]
  simpa using hj
theorem prv_start (w : World) (wd : Int) (b : Nat) : PrvAt w (w.heap.size + 2) [] (.slice none 0 0) (((w.alloc (.cells #[.int .i64 wd, .pointer (some ⟨b, 0, none⟩)] 30)).alloc (.cells #[.slice none 0 0, .bool false, .string ⟨#[]⟩, .string ⟨#[]⟩] 25)).alloc (.cells #[.slice none 0 0, .bool false, .string ⟨#[]⟩, .string ⟨#[]⟩] 25)) := by
  have k1 := (Blk.new (w.alloc (.cells #[.int .i64 wd, .pointer (some ⟨b, 0, none⟩)] 30)) #[.slice none 0 0, .bool false, .string ⟨#[]⟩, .string ⟨#[]⟩] 25).alloc (.cells #[.slice none 0 0, .bool false, .string ⟨#[]⟩, .string ⟨#[]⟩] 25)
  have k2 := Blk.new ((w.alloc (.cells #[.int .i64 wd, .pointer (some ⟨b, 0, none⟩)] 30)).alloc (.cells #[.slice none 0 0, .bool false, .string ⟨#[]⟩, .string ⟨#[]⟩] 25)) #[.slice none 0 0, .bool false, .string ⟨#[]⟩, .string ⟨#[]⟩] 25
  simp only [World.size_alloc] at k1 k2
  exact ⟨(((Below.refl _ _).alloc (Nat.le_refl _) _).alloc (by simp) _).alloc (by simp; omega) _, rfl, k1, k2, World.ownsRow_nil _ _ _ _⟩
end Go.Proofs.Ytcpjcjonlkgblaa

namespace Go.Proofs.Ytcpjcjonlkgblaa
open Go.RowKit
set_option linter.unusedVariables false
set_option linter.unusedSimpArgs false

theorem wp_append_run {P : Program} {w : World} {o : Oper} {a : Act} {K : Act → World → Prop} {Q : Exit → Act → World → Prop} (s x : Operand) (t : TypeId) (ho : o.op = .call { callee := .builtin .append, args := #[s, x], argTypes := #[t, t] })
    (v1 v2 v : Value) (w' : World) (hs : a.eval s = v1) (hx : a.eval x = v2) (hr : (Builtin.append_ #[t, t] o.type #[v1, v2]).run P w = .ok v w') (h : K (a.put o.dst v) w') : o.wp P a w K Q := by
  unfold Oper.wp execOp
  simp only [ho, resolve, invoke, builtin, Sem.run_bind, Sem.run_pure, Result.andThen_ok, List.map_toArray, List.map_cons, List.map_nil, hs, hx, hr]
  exact h

theorem news_turns {w : World} {b off : Nat} {l : List (Int × Int)} (hc : ∀ i x, l[i]? = some x → w.cell? ⟨b, off + i * 2, none⟩ = some (.int .i64 x.1) ∧ w.cell? ⟨b, off + i * 2 + 1, none⟩ = some (.int .u64 x.2)) : ∀ j u, (flatT l)[j]? = some u → w.cell? ((⟨b, off, none⟩ : Addr).add j) = some u := by
  intro j u hj
  have ha : (⟨b, off, none⟩ : Addr).add j = ⟨b, off + j, none⟩ := by unfold Addr.add; split <;> simp_all
  rw [ha]
  have hjl : j < l.length * 2 := by have := (List.getElem?_eq_some_iff.1 hj).1; rw [flatT_len] at this; exact this
  have hi : j / 2 < l.length := by omega
  have hx := List.getElem?_eq_getElem hi
  obtain ⟨f1, f2⟩ := flatT_get l (j / 2) _ hx
  obtain ⟨c1, c2⟩ := hc (j / 2) _ hx
  have hm : j % 2 = 0 ∨ j % 2 = 1 := by omega
  rcases hm with hm | hm
  · have e : j = j / 2 * 2 := by omega
    rw [e] at hj
    rw [f1] at hj
    rw [e, c1, hj]
  · have e : j = j / 2 * 2 + 1 := by omega
    rw [e] at hj
    rw [f2] at hj
    rw [e, ← Nat.add_assoc, c2, hj]
theorem flatT_one (l : List (Int × Int)) : ∀ u ∈ flatT l, u.oneCell' = true := by
  intro u hu
  simp only [flatT, List.mem_flatMap] at hu
  obtain ⟨x, _, hx⟩ := hu
  simp at hx
  rcases hx with rfl | rfl <;> rfl

theorem app_turns (w : World) (base : Nat) (sv : Value) (done : List (Int × Int)) (hown : w.ownsRow base 69 2 sv done.length (flatT done)) (la : Option Addr) (cap : Nat) (l : List (Int × Int)) (hT : TurnsAt w la l) (hd : done.length ≤ 200000) (hl : l.length ≤ 200000) (hb : base ≤ w.heap.size) :
    ∃ v w', (Builtin.append_ #[23, 23] 23 #[sv, .slice la l.length cap]).run Try.prog w = .ok v w' ∧ w'.ownsRow base 69 2 v (done ++ l).length (flatT (done ++ l)) ∧ w.grownBy w' sv.ownBlock := by
  obtain ⟨i0, hi, hz0, hz1, hz2⟩ := info_parts infoTurn
  have hfl : flatT (done ++ l) = flatT done ++ flatT l := by simp [flatT]
  by_cases h0 : l = []
  · subst h0
    simp only [List.length_nil, List.append_nil]
    rcases hown.2 with ⟨rfl, hn⟩ | ⟨g, cg, cur, rfl, hg1, hg2, hg3, hg4, hg5, hg6⟩
    · cases la with
      | none => exact ⟨_, w, by simp [Builtin.append_, run_underlying Try.underlying23, sizeOf, typeInfo, hi, Builtin.lenOf, Builtin.firstCells, loadCells, loadCellsFrom], hown, ⟨rfl, rfl, rfl, Nat.le_refl _, fun _ _ _ => rfl⟩⟩
      | some ad =>
        obtain ⟨v, w', hr, h1, h2, _⟩ := run_append_own_at (P := Try.prog) w base 23 23 69 i0 (.agg #[.int .i64 0, .int .u64 0]) 2 16 Try.underlying23 hi hz0 hz1 hz2 rfl (by decide) _ _ _ hown ad 0 cap [] (by simp) (by simp) (by simp) (by unfold maxLen; omega) (by omega) hb
        exact ⟨v, w', hr, by simpa using h1, h2⟩
    · cases la with
      | none =>
        refine ⟨.slice (some ⟨g, 0, none⟩) done.length cg, w, ?_, hown, ⟨rfl, rfl, rfl, Nat.le_refl _, fun _ _ _ => rfl⟩⟩
        simp [Builtin.append_, run_underlying Try.underlying23, sizeOf, typeInfo, hi, Builtin.lenOf, Builtin.firstCells, loadCells, loadCellsFrom]
        rw [if_pos hg3]
        simp [storeCells, Result.andThen]
      | some ad =>
        obtain ⟨v, w', hr, h1, h2, _⟩ := run_append_own_at (P := Try.prog) w base 23 23 69 i0 (.agg #[.int .i64 0, .int .u64 0]) 2 16 Try.underlying23 hi hz0 hz1 hz2 rfl (by decide) _ _ _ hown ad 0 cap [] (by simp) (by simp) (by simp) (by unfold maxLen; omega) (by omega) hb
        exact ⟨v, w', hr, by simpa using h1, h2⟩
  · rcases hT with e | ⟨b, off, rfl, hlt, hc⟩
    · exact absurd e h0
    · obtain ⟨v, w', hr, h1, h2, _⟩ := run_append_own_at (P := Try.prog) w base 23 23 69 i0 (.agg #[.int .i64 0, .int .u64 0]) 2 16 Try.underlying23 hi hz0 hz1 hz2 rfl (by decide) _ _ _ hown ⟨b, off, none⟩ l.length cap (flatT l) (flatT_len l) (news_turns hc) (flatT_one l) (by unfold maxLen; omega) (by omega) hb
      exact ⟨v, w', hr, by rw [hfl, List.length_append]; exact h1, h2⟩
end Go.Proofs.Ytcpjcjonlkgblaa

namespace Go.Proofs.Ytcpjcjonlkgblaa
open Go.RowKit
set_option linter.unusedVariables false
set_option linter.unusedSimpArgs false

structure OutAt (w : World) (lp : Option Addr) (cp : Nat) (p : Pf) (O : Nat) (x : Pf) (sv : Value) (W : World) : Prop where
  below : Below w.heap.size w W
  lo : w.heap.size + 3 ≤ O
  out : Blk W O #[sv, .bool x.leaf, .string (str x.key), .string (str x.val)] 25
  pb : Blk W (w.heap.size + 1) #[.slice lp p.tu.length cp, .bool p.leaf, .string (str p.key), .string (str p.val)] 25
  res : Blk W (w.heap.size + 2) #[.slice none 0 0, .bool false, .string ⟨#[]⟩, .string ⟨#[]⟩] 25
  row : W.ownsRow (w.heap.size + 3) 69 2 sv x.tu.length (flatT x.tu)

theorem row_not {W : World} {O : Nat} {cs : Array Value} {base : Nat} {sv : Value} {n : Nat} {xs : List Value} (h : Blk W O cs 25) (hr : W.ownsRow base 69 2 sv n xs) : sv.ownBlock ≠ some O := fun e => by
  rcases hr.2 with ⟨rfl, _⟩ | ⟨g, cap, cur, rfl, _, hgh, _⟩
  · cases e
  · have hk : g = O := by simpa [Value.ownBlock] using e
    subst hk
    have := Option.some.inj (hgh.symm.trans h)
    injection this with _ h2 _
    exact absurd h2 (by decide)
theorem owns_off {W : World} {base : Nat} {sv : Value} {n : Nat} {xs : List Value} {O : Nat} (hr : W.ownsRow base 69 2 sv n xs) (hne : sv.ownBlock ≠ some O) (i : Nat) (u : Value) : (W.setCell ⟨O, i, none⟩ u).ownsRow base 69 2 sv n xs := by
  obtain ⟨h1, h2⟩ := hr
  refine ⟨h1, ?_⟩
  rcases h2 with h2 | ⟨g, cap, cur, rfl, h3, h4, h5⟩
  · exact .inl h2
  · refine .inr ⟨g, cap, cur, rfl, h3, ?_, h5⟩
    have hb : Blk W g cur 69 := h4
    exact hb.setOther ⟨O, i, none⟩ (fun e => hne (by simp only [Value.ownBlock]; rw [show g = O from e])) u

theorem out_made {w wA W : World} {lp : Option Addr} {cp : Nat} {p x : Pf} {O : Nat} {sv : Value} (bA : Below w.heap.size w wA) (sA : wA.heap.size = w.heap.size + 3)
    (kP : Blk wA (w.heap.size + 1) #[.slice lp p.tu.length cp, .bool p.leaf, .string (str p.key), .string (str p.val)] 25) (kR : Blk wA (w.heap.size + 2) #[.slice none 0 0, .bool false, .string ⟨#[]⟩, .string ⟨#[]⟩] 25)
    (hb : Below wA.heap.size wA W) (hO : wA.heap.size ≤ O) (kO : Blk W O #[.slice none 0 0, .bool false, .string ⟨#[]⟩, .string ⟨#[]⟩] 25) (hr : W.ownsRow (w.heap.size + 3) 69 2 sv x.tu.length (flatT x.tu)) :
    OutAt w lp cp p O x sv ((((W.setCell ⟨O, 0, none⟩ sv).setCell ⟨O, 1, none⟩ (.bool x.leaf)).setCell ⟨O, 2, none⟩ (.string (str x.key))).setCell ⟨O, 3, none⟩ (.string (str x.val))) := by
  have n1 : w.heap.size + 1 ≠ O := by omega
  have n2 : w.heap.size + 2 ≠ O := by omega
  have ne := row_not kO hr
  have k1 := kP.below hb kP.lt
  have k2 := kR.below hb kR.lt
  have B := bA.trans (hb.mono bA.size)
  have hO' : w.heap.size ≤ O := by omega
  exact ⟨(((B.setCell (p := ⟨O, 0, none⟩) hO' _).setCell (p := ⟨O, 1, none⟩) hO' _).setCell (p := ⟨O, 2, none⟩) hO' _).setCell (p := ⟨O, 3, none⟩) hO' _, by omega, (((kO.set 0 _).set 1 _).set 2 _).set 3 _,
    (((k1.setOther ⟨O, 0, none⟩ n1 _).setOther ⟨O, 1, none⟩ n1 _).setOther ⟨O, 2, none⟩ n1 _).setOther ⟨O, 3, none⟩ n1 _, (((k2.setOther ⟨O, 0, none⟩ n2 _).setOther ⟨O, 1, none⟩ n2 _).setOther ⟨O, 2, none⟩ n2 _).setOther ⟨O, 3, none⟩ n2 _,
    owns_off (owns_off (owns_off (owns_off hr ne 0 _) ne 1 _) ne 2 _) ne 3 _⟩
theorem out_new {w wA W : World} {lp : Option Addr} {cp : Nat} {p x : Pf} {sv : Value} (bA : Below w.heap.size w wA) (sA : wA.heap.size = w.heap.size + 3)
    (kP : Blk wA (w.heap.size + 1) #[.slice lp p.tu.length cp, .bool p.leaf, .string (str p.key), .string (str p.val)] 25) (kR : Blk wA (w.heap.size + 2) #[.slice none 0 0, .bool false, .string ⟨#[]⟩, .string ⟨#[]⟩] 25)
    (hb : Below wA.heap.size wA W) (hr : W.ownsRow (w.heap.size + 3) 69 2 sv x.tu.length (flatT x.tu)) :
    OutAt w lp cp p W.heap.size x sv (W.alloc (.cells #[sv, .bool x.leaf, .string (str x.key), .string (str x.val)] 25)) := by
  have B := bA.trans (hb.mono bA.size)
  have hs := hb.size
  exact ⟨B.alloc B.size _, by omega, Blk.new _ _ _, (kP.below hb kP.lt).alloc _, (kR.below hb kR.lt).alloc _, hr.alloc _⟩
theorem OutAt.drew {w : World} {lp : Option Addr} {cp : Nat} {p x : Pf} {O : Nat} {sv : Value} {W : World} (h : OutAt w lp cp p O x sv W) : OutAt w lp cp p O x sv W.drew := ⟨h.below.drew, h.lo, h.out.drew, h.pb.drew, h.res.drew, h.row⟩

/-- turned, behind the switch. -/
structure FinAt (w : World) (O : Nat) (x : Pf) (la : Option Addr) (cap : Nat) (W : World) : Prop where
  below : Below w.heap.size w W
  lo : w.heap.size + 3 ≤ O
  out : Blk W O #[.slice la x.tu.length cap, .bool x.leaf, .string (str x.key), .string (str x.val)] 25
  res : Blk W (w.heap.size + 2) #[.slice none 0 0, .bool false, .string ⟨#[]⟩, .string ⟨#[]⟩] 25
  pf : PfIn W la cap x
  far : x.tu ≠ [] → ∀ b off, la = some ⟨b, off, none⟩ → w.heap.size + 3 ≤ b ∧ b ≠ O
theorem OutAt.fin {w : World} {lp : Option Addr} {cp : Nat} {p x : Pf} {O : Nat} {la : Option Addr} {n cap : Nat} {W : World} (h : OutAt w lp cp p O x (.slice la n cap) W) (he : ∀ t ∈ x.tu, okTurn t) (hk : x.key.length ≤ maxLen) (hv : x.val.length ≤ maxLen) : n = x.tu.length ∧ FinAt w O x la cap W := by
  obtain ⟨l9, c9, e, h1, h2, h3⟩ := TurnsAt.of_owns h.row
  injection e with e1 e2 e3
  subst e1 e2 e3
  refine ⟨rfl, h.below, h.lo, h.out, h.res, ⟨h1, h2, h3, he, hk, hv⟩, fun hd b off e => ?_⟩
  subst e
  refine ⟨?_, fun e => ?_⟩
  · rcases h.row.2 with ⟨e0, _⟩ | ⟨g, cg, cur, e0, hg1, _⟩
    · cases e0
    · injection e0 with e0 _ _; injection e0 with e0; injection e0 with e0 _; omega
  · subst e
    rcases h.row.2 with ⟨e0, _⟩ | ⟨g, cg, cur, e0, hg1, hg2, _⟩
    · cases e0
    · injection e0 with e0 _ _; injection e0 with e0; injection e0 with e0 _
      subst e0
      exact row_not h.out h.row rfl
theorem FinAt.done {w : World} {O : Nat} {x : Pf} {la : Option Addr} {cap : Nat} {W : World} (h : FinAt w O x la cap W) : PfIn ((((W.setCell ⟨w.heap.size + 2, 0, none⟩ (.slice la x.tu.length cap)).setCell ⟨w.heap.size + 2, 1, none⟩ (.bool x.leaf)).setCell ⟨w.heap.size + 2, 2, none⟩ (.string (str x.key))).setCell ⟨w.heap.size + 2, 3, none⟩ (.string (str x.val))) la cap x ∧
    Below w.heap.size w ((((W.setCell ⟨w.heap.size + 2, 0, none⟩ (.slice la x.tu.length cap)).setCell ⟨w.heap.size + 2, 1, none⟩ (.bool x.leaf)).setCell ⟨w.heap.size + 2, 2, none⟩ (.string (str x.key))).setCell ⟨w.heap.size + 2, 3, none⟩ (.string (str x.val))) := by
  have hO : w.heap.size ≤ w.heap.size + 2 := by omega
  have ne : x.tu ≠ [] → ∀ b off, la = some ⟨b, off, none⟩ → w.heap.size + 2 ≠ b := fun hd b off e => by have := (h.far hd b off e).1; omega
  exact ⟨⟨h.pf.cap1, h.pf.cap2, (((h.pf.turns.set ne 0 _).set ne 1 _).set ne 2 _).set ne 3 _, h.pf.each, h.pf.key, h.pf.val⟩, (((h.below.setCell (p := ⟨w.heap.size + 2, 0, none⟩) hO _).setCell (p := ⟨w.heap.size + 2, 1, none⟩) hO _).setCell (p := ⟨w.heap.size + 2, 2, none⟩) hO _).setCell (p := ⟨w.heap.size + 2, 3, none⟩) hO _⟩
theorem FinAt.setKV {w : World} {O : Nat} {x : Pf} {la : Option Addr} {cap : Nat} {W : World} (h : FinAt w O x la cap W) (k v : Key) (hk : k.length ≤ maxLen) (hv : v.length ≤ maxLen) : FinAt w O ⟨x.leaf, k, x.val, x.tu⟩ la cap (W.setCell ⟨O, 2, none⟩ (.string (str k))) ∧ FinAt w O ⟨x.leaf, x.key, v, x.tu⟩ la cap (W.setCell ⟨O, 3, none⟩ (.string (str v))) := by
  have hlo := h.lo
  have n2 : w.heap.size + 2 ≠ O := by omega
  have hO : w.heap.size ≤ O := by omega
  exact ⟨⟨h.below.setCell (p := ⟨O, 2, none⟩) hO _, h.lo, h.out.set 2 _, h.res.setOther ⟨O, 2, none⟩ n2 _, ⟨h.pf.cap1, h.pf.cap2, h.pf.turns.set (fun hd b off e e2 => (h.far hd b off e).2 e2.symm) 2 _, h.pf.each, hk, h.pf.val⟩, h.far⟩,
    ⟨h.below.setCell (p := ⟨O, 3, none⟩) hO _, h.lo, h.out.set 3 _, h.res.setOther ⟨O, 3, none⟩ n2 _, ⟨h.pf.cap1, h.pf.cap2, h.pf.turns.set (fun hd b off e e2 => (h.far hd b off e).2 e2.symm) 3 _, h.pf.each, h.pf.key, hv⟩, h.far⟩⟩
end Go.Proofs.Ytcpjcjonlkgblaa

namespace Go.Proofs.Ytcpjcjonlkgblaa
open Go.RowKit
set_option linter.unusedVariables false
set_option linter.unusedSimpArgs false

theorem FinAt.setS {w : World} {O : Nat} {x y : Pf} {la lb : Option Addr} {cap cb : Nat} {W : World} (h : FinAt w O x la cap W) (hT : TurnsAt W lb y.tu) (h1 : y.tu.length ≤ cb) (h2 : cb ≤ maxLen) (he : ∀ t ∈ y.tu, okTurn t) (el : y.leaf = x.leaf) (ek : y.key = x.key) (ev : y.val = x.val)
    (hf : y.tu ≠ [] → ∀ b off, lb = some ⟨b, off, none⟩ → w.heap.size + 3 ≤ b ∧ b ≠ O) (n : Nat) (hn : n = y.tu.length) : FinAt w O y lb cb (W.setCell ⟨O, 0, none⟩ (.slice lb n cb)) := by
  subst hn
  have hlo := h.lo
  have n2 : w.heap.size + 2 ≠ O := by omega
  have hO : w.heap.size ≤ O := by omega
  refine ⟨h.below.setCell (p := ⟨O, 0, none⟩) hO _, h.lo, ?_, h.res.setOther ⟨O, 0, none⟩ n2 _, ⟨h1, h2, hT.set (fun hd b off e e2 => (hf hd b off e).2 e2.symm) 0 _, he, by rw [ek]; exact h.pf.key, by rw [ev]; exact h.pf.val⟩, hf⟩
  rw [el, ek, ev]
  exact h.out.set 0 _
theorem TurnsAt.tail {W : World} {b off : Nat} {l : List (Int × Int)} (h : TurnsAt W (some ⟨b, off, none⟩) l) : TurnsAt W (some ⟨b, off + 2, none⟩) l.tail := by
  rcases h with rfl | ⟨b2, o2, e, hl, hc⟩
  · exact .inl rfl
  · injection e with e
    injection e with e1 e2
    subst e1 e2
    refine .inr ⟨b, off + 2, rfl, hl, fun i x hx => ?_⟩
    have hx' : l[i + 1]? = some x := by cases l with | nil => simp at hx | cons y l => simpa using hx
    have := hc (i + 1) x hx'
    rw [show off + (i + 1) * 2 = off + 2 + i * 2 by omega] at this
    exact this
theorem FinAt.tail1 {w : World} {O : Nat} {x : Pf} {b off cap : Nat} {W : World} (h : FinAt w O x (some ⟨b, off, none⟩) cap W) (hn : x.tu.length > 0) : FinAt w O ⟨x.leaf, x.key, x.val, x.tu.tail⟩ (some ⟨b, off + 2, none⟩) (cap - 1) (W.setCell ⟨O, 0, none⟩ (.slice (some ⟨b, off + 2, none⟩) (x.tu.length - 1) (cap - 1))) :=
  h.setS (y := ⟨x.leaf, x.key, x.val, x.tu.tail⟩) h.pf.turns.tail (by have := h.pf.cap1; simp; omega) (by have := h.pf.cap2; omega) (fun t ht => h.pf.each t (List.mem_of_mem_tail ht)) rfl rfl rfl
    (fun hd b2 o2 e => by injection e with e; injection e with e1 _; subst e1; exact h.far (fun e0 => hd (by simp [e0])) b off rfl) _ (by simp)
theorem FinAt.tail0 {w : World} {O : Nat} {x : Pf} {la : Option Addr} {cap : Nat} {W : World} (h : FinAt w O x la cap W) (hc : cap = 1) (hn : x.tu.length > 0) : FinAt w O ⟨x.leaf, x.key, x.val, x.tu.tail⟩ la 0 (W.setCell ⟨O, 0, none⟩ (.slice la (x.tu.length - 1) 0)) := by
  have h1 := h.pf.cap1
  have e0 : x.tu.tail = [] := List.eq_nil_of_length_eq_zero (by simp; omega)
  exact h.setS (y := ⟨x.leaf, x.key, x.val, x.tu.tail⟩) (.inl e0) (by rw [e0]; simp) (Nat.zero_le _) (by rw [e0]; simp) rfl rfl rfl (fun hd => absurd e0 hd) _ (by simp)
theorem OutAt.app {w : World} {lp : Option Addr} {cp : Nat} {p x : Pf} {O : Nat} {sv : Value} {W w9 : World} {l9 : Option Addr} {n9 c9 : Nat} {l : List (Int × Int)} (h : OutAt w lp cp p O x sv W) (ho : w9.ownsRow (w.heap.size + 3) 69 2 (.slice l9 n9 c9) (x.tu ++ l).length (flatT (x.tu ++ l))) (hg : W.grownBy w9 sv.ownBlock) :
    Blk w9 O #[sv, .bool x.leaf, .string (str x.key), .string (str x.val)] 25 ∧ Blk w9 (w.heap.size + 2) #[.slice none 0 0, .bool false, .string ⟨#[]⟩, .string ⟨#[]⟩] 25 ∧ OutAt w lp cp p O ⟨x.leaf, x.key, x.val, x.tu ++ l⟩ (.slice l9 n9 c9) (w9.setCell ⟨O, 0, none⟩ (.slice l9 n9 c9)) := by
  have hlo := h.lo
  have k1 := h.out.grown hg (row_not h.out h.row)
  have k2 := h.pb.grown hg (row_not h.pb h.row)
  have k3 := h.res.grown hg (row_not h.res h.row)
  have hO : w.heap.size ≤ O := by omega
  have b9 : Below w.heap.size w w9 := h.below.grown hg h.below.size (fun k e => by have := (h.row.lt k e).1; omega)
  exact ⟨k1, k3, b9.setCell (p := ⟨O, 0, none⟩) hO _, h.lo, k1.set 0 _, k2.setOther ⟨O, 0, none⟩ (by show w.heap.size + 1 ≠ O; omega) _, k3.setOther ⟨O, 0, none⟩ (by show w.heap.size + 2 ≠ O; omega) _, owns_off ho (row_not k1 ho) 0 _⟩
theorem FinAt.put {w : World} {O : Nat} {x : Pf} {b off cap i j : Nat} {W : World} {y : Int × Int} {u : Value} (h : FinAt w O x (some ⟨b, off, none⟩) cap W) (hi : i < x.tu.length) (hy : okTurn y) (hj : (j = 0 ∧ u = .int .i64 y.1 ∧ y.2 = x.tu[i].2) ∨ (j = 1 ∧ u = .int .u64 y.2 ∧ y.1 = x.tu[i].1)) :
    FinAt w O ⟨x.leaf, x.key, x.val, x.tu.set i y⟩ (some ⟨b, off, none⟩) cap (W.setCell ⟨b, off + i * 2 + j, none⟩ u) := by
  have hne : x.tu ≠ [] := fun e => by rw [e] at hi; simp at hi
  obtain ⟨f1, f2⟩ := h.far hne b off rfl
  have hlo := h.lo
  have hb : w.heap.size ≤ b := by omega
  have hO : O ≠ b := fun e => f2 e.symm
  have hR : w.heap.size + 2 ≠ b := by omega
  refine ⟨h.below.setCell (p := ⟨b, _, none⟩) hb _, h.lo, ?_, h.res.setOther ⟨b, _, none⟩ hR _, ⟨by simpa using h.pf.cap1, h.pf.cap2, ?_, fun t ht => ?_, h.pf.key, h.pf.val⟩, fun hd b2 o2 e => h.far hne b2 o2 e⟩
  · have := h.out.setOther ⟨b, off + i * 2 + j, none⟩ hO u
    simpa using this
  · rcases h.pf.turns with e | ⟨b2, o2, e, hl, hc⟩
    · exact absurd e hne
    · injection e with e
      injection e with e1 e2
      subst e1 e2
      refine .inr ⟨b, off, rfl, by rw [size_setCell]; exact hl, fun k z hz => ?_⟩
      have hk : k < x.tu.length := by have := (List.getElem?_eq_some_iff.1 hz).1; simpa using this
      obtain ⟨c1, c2⟩ := hc k _ (List.getElem?_eq_getElem hk)
      have oth : ∀ m, m ≠ off + i * 2 + j → (W.setCell ⟨b, off + i * 2 + j, none⟩ u).cell? ⟨b, m, none⟩ = W.cell? ⟨b, m, none⟩ := fun m hm => World.cell?_setCell_other _ ⟨b, off + i * 2 + j, none⟩ ⟨b, m, none⟩ _ (fun e => by injection e with _ e _; exact hm e.symm)
      by_cases hki : k = i
      · subst hki
        have hz' : z = y := by simpa [hk] using hz.symm
        subst hz'
        rcases hj with ⟨rfl, rfl, h3⟩ | ⟨rfl, rfl, h3⟩
        · exact ⟨World.cell?_setCell_same' _ _ _ (by show (W.cell? ⟨b, off + k * 2, none⟩).isSome = true; rw [c1]; rfl), by rw [oth _ (by omega), c2, h3]⟩
        · exact ⟨by rw [oth _ (by omega), c1, h3], World.cell?_setCell_same' _ _ _ (by rw [c2]; rfl)⟩
      · have hz' : z = x.tu[k] := by
          rw [List.getElem?_set_ne (fun e => hki e.symm), List.getElem?_eq_getElem hk] at hz
          simpa using hz.symm
        subst hz'
        have hj2 : j ≤ 1 := by omega
        exact ⟨by rw [oth _ (by omega)]; exact c1, by rw [oth _ (by omega)]; exact c2⟩
  · rcases List.mem_or_eq_of_mem_set ht with h1 | h1
    · exact h.pf.each t h1
    · rw [h1]; exact hy
theorem FinAt.drew {w : World} {O : Nat} {x : Pf} {la : Option Addr} {cap : Nat} {W : World} (h : FinAt w O x la cap W) : FinAt w O x la cap W.drew := ⟨h.below.drew, h.lo, h.out.drew, h.res.drew, h.pf.below ((Below.refl _ _).drew), h.far⟩
theorem wrap_u64 (d : Int) : 0 ≤ IntKind.u64.wrap d ∧ IntKind.u64.wrap d ≤ 18446744073709551615 := by
  unfold IntKind.wrap
  simp [IntKind.signed, IntKind.bits]
  omega
theorem wrap_i64 (d : Int) : -9223372036854775808 ≤ IntKind.i64.wrap d ∧ IntKind.i64.wrap d ≤ 9223372036854775807 := by
  unfold IntKind.wrap
  simp [IntKind.signed, IntKind.bits]
  constructor <;> (try split) <;> omega
end Go.Proofs.Ytcpjcjonlkgblaa

namespace Go.Proofs.Ytcpjcjonlkgblaa
open Go.RowKit
set_option linter.unusedVariables false

theorem pick_any (c n : Int) (w : World) (hc : -9223372036854775808 ≤ c ∧ c ≤ 9223372036854775807) (hn : 1 ≤ n ∧ n ≤ 9223372036854775807) :
    Calls Try.prog 6 #[.int .i64 c, .int .i64 n] w fun e w' => (∃ r, e = .returned (.int .i64 r) ∧ 0 ≤ r ∧ r < n) ∧ w = w' := by
  by_cases h : c < 0
  · have hq := Int.emod_nonneg (-(c + 1)) (show n ≠ 0 by omega)
    have hq2 := Int.emod_lt_of_pos (-(c + 1)) (show 0 < n by omega)
    go_enter Try.func6, Try.ntmps6
    go_wp2
    go_ret
    have e : -((c + 1).tmod n) = -(c + 1) % n := by rw [← Int.neg_tmod, Int.tmod_eq_emod_of_nonneg (by omega)]
    rw [← e] at hq hq2
    exact ⟨⟨_, rfl, hq, hq2⟩, rfl⟩
  · have hq := Int.emod_nonneg c (show n ≠ 0 by omega)
    have hq2 := Int.emod_lt_of_pos c (show 0 < n by omega)
    go_enter Try.func6, Try.ntmps6
    go_wp2
    go_ret
    exact ⟨⟨_, rfl, hq, hq2⟩, rfl⟩
end Go.Proofs.Ytcpjcjonlkgblaa
