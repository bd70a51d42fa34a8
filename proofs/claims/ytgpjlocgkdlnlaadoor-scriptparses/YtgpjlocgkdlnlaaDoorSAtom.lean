/- The program's reader: arguments, names, atoms. -/
import Derived.Test.YtgpjlocgkdlnlaaDoorM13
namespace Go.Proofs.YtgpjlocgkdlnlaaDoor
open Go.RowKit
set_option linter.unusedVariables false
set_option linter.unusedSimpArgs false

abbrev ExL (N : Nat) : Prop := ∀ m, m < N → ExC m
set_option maxRecDepth 4000 in
set_option maxHeartbeats 1600000 in
theorem args_b {N : Nat} (H : ExL N) (b : Nat) (S : ES) (w : World) (R : RAt w b S) (hn : need S + 21 ≤ N) : Calls Tryd.prog 82 #[.pointer (some ⟨b, 0, none⟩)] w (ArE b (argsT N) S w) := by
  obtain ⟨n, rfl⟩ : ∃ n, N = n + 1 + 1 := ⟨N - 2, by omega⟩
  have zb := R.lt
  have bA : Below w.heap.size w (w.alloc (.cells #[.pointer (some ⟨b, 0, none⟩)] 32)) := (Below.refl _ _).alloc (Nat.le_refl _) _
  have kA := Blk.new w #[.pointer (some ⟨b, 0, none⟩)] 32
  go_enter Tryd.func82, Tryd.ntmps82
  go_wp2_with fail
  refine (open_u [40] b S _ (R.below bA)).mono ?_
  rintro e w1 ⟨rfl, B1, S1, R1, h1⟩
  have k1 := B1.blk kA (by omega)
  have B01 := bbut (But.of_below bA) B1
  have p1 := (k1.cell 0).trans rfl
  have z1 := k1.lt
  have hd1 := (need_open h1).1
  go_wp2_with fail
  refine (comma_b (n := n) (fun m hm => H m (by omega)) w.heap.size b S1 w1 R1 k1 (by omega) (by omega)).mono ?_
  rintro e w2 ⟨la, lc, es, rfl, hl, B2, S2, R2, hd2, h2, h4s⟩
  have k2 := B2.blk k1 (by omega)
  have B02 := bbut B01 B2
  have p2 := (k2.cell 0).trans rfl
  have z2 := k2.lt
  clear p1 z1
  go_wp2_with fail
  refine (shut_u [41] b S2 w2 R2).mono ?_
  rintro e w3 ⟨rfl, B3, S3, R3, h3⟩
  have hd3 := need_shut h3
  have HR : Hid (Rel (argsT (n + 1 + 1)) S (pvRows es) S3) := by
    show Rel (argsT (n + 1 + 1)) S _ _
    rw [argsT]
    exact h1.bind (h2.bind (h3.bind (Rel.pur _ _)))
  have hzz := B01.size
  have HL : Hid ((Fld.l la lc es).lies w.heap.size w3) := Fld.lies_mono (by omega) _ (Fld.lies_hi (Hi.of_but B3 (fun k q => by omega)) _ hl)
  have HD : Hid (need S3 ≤ need S) := by show _ ≤ _; omega
  have HB : Hid (But (fun k => k = b) w w3) := bbut B02 B3
  have H4 : Hid (Fours es) := h4s
  clear h1 h2 h3 hl h4s
  go_wp2
  go_ret
  exact ⟨la, lc, es, rfl, HL.out, HB.out, S3, R3, HD.out, HR.out, H4.out⟩
theorem inner_n {N : Nat} (H : ExL N) (o c : Key) (b : Nat) (S : ES) (w : World) (R : RAt w b S) (hn : need S + 4 ≤ N) (hn2 : 20 ≤ N) : Calls Tryd.prog 81 #[.pointer (some ⟨b, 0, none⟩), .string (str o), .string (str c)] w (ExE b (innerT N o c) S w) := by
  obtain ⟨n, rfl⟩ : ∃ n, N = n + 1 := ⟨N - 1, by omega⟩
  exact inner_b (H n (by omega)) o c b S w R hn hn2
/-- A list of one is made, and a box is given it. -/
theorem row_one {x b lo : Nat} {S : ES} {w u : World} {fs : List Fld} {c0 c1 c2 c3 : Value} (k : Blk u x #[c0, c1, c2, c3] 73) (hb : b < w.heap.size) (hx : w.heap.size ≤ x) (hlo : x < lo) (hll : lo ≤ u.heap.size) (hl : lieAll lo u fs) (B : But (fun k => k = b) w u) (R : RAt u b S) :
    ∀ v, v = (u.setCell ⟨x, 3, none⟩ (.slice (some ⟨u.heap.size, 0, none⟩) 1 1)).alloc (.cells (fs.map Fld.val).toArray 73) →
    Blk v x #[c0, c1, c2, .slice (some ⟨u.heap.size, 0, none⟩) 1 1] 73 ∧ (Fld.l (some ⟨u.heap.size, 0, none⟩) 1 [fs]).lies lo v ∧ But (fun k => k = b) w v ∧ RAt v b S ∧ ∀ y cs t, y ≠ x → Blk u y cs t → Blk v y cs t := by
  intro v hv
  have hxu := k.lt
  have hz := R.gl.sz
  have hb5 := R.b5
  have hzu := B.size
  have k1 := k.set 3 (.slice (some ⟨u.heap.size, 0, none⟩) 1 1)
  have B1 := bnew (i := 3) (v := .slice (some ⟨u.heap.size, 0, none⟩) 1 1) B hx
  have R1 := R.setOther (x := x) (i := 3) (v := .slice (some ⟨u.heap.size, 0, none⟩) 1 1) (by omega) (by omega)
  have hl1 := hl.hi ((Hi.refl _ _).set (x := x) (i := 3) (v := .slice (some ⟨u.heap.size, 0, none⟩) 1 1) hlo)
  have hs1 : (u.setCell ⟨x, 3, none⟩ (.slice (some ⟨u.heap.size, 0, none⟩) 1 1)).heap.size = u.heap.size := by simp
  have hoth : ∀ y cs t, y ≠ x → Blk u y cs t → Blk (u.setCell ⟨x, 3, none⟩ (.slice (some ⟨u.heap.size, 0, none⟩) 1 1)) y cs t := fun y cs t hy q => q.setOther ⟨x, 3, none⟩ hy _
  generalize u.setCell ⟨x, 3, none⟩ (.slice (some ⟨u.heap.size, 0, none⟩) 1 1) = v1 at *
  subst hv
  have kR := Blk.new v1 (fs.map Fld.val).toArray 73
  rw [hs1] at kR
  have bE : Below v1.heap.size v1 (v1.alloc (.cells (fs.map Fld.val).toArray 73)) := (Below.refl _ _).alloc (Nat.le_refl _) _
  exact ⟨k1.below bE k1.lt, one_lies kR hll (hl1.hi (Hi.of_below bE)), bal B1 _, R1.below bE, fun y cs t hy q => (hoth y cs t hy q).below bE (hoth y cs t hy q).lt⟩
set_option maxRecDepth 4000 in
set_option maxHeartbeats 3200000 in
theorem named_b {N : Nat} (H : ExL N) (b : Nat) (S : ES) (w : World) (R : RAt w b S) (hs : ∃ σ t, S = .ok σ ∧ σ.now = .name t) (hn : need S + 11 ≤ N) : Calls Tryd.prog 89 #[.pointer (some ⟨b, 0, none⟩)] w (ExE b (namedT N) S w) := by
  obtain ⟨n, rfl⟩ : ∃ n, N = n + 1 := ⟨N - 1, by omega⟩
  have zb := R.lt
  have bA : Below w.heap.size w (w.alloc (.cells #[.int .i64 0, .int .i64 0, .string ⟨#[]⟩, .slice none 0 0] 73)) := (Below.refl _ _).alloc (Nat.le_refl _) _
  have kA := Blk.new w #[.int .i64 0, .int .i64 0, .string ⟨#[]⟩, .slice none 0 0] 73
  go_enter Tryd.func89, Tryd.ntmps89
  go_wp2_with fail
  refine (name_v b S _ (R.below bA)).mono ?_
  rintro e w1 ⟨s, rfl, B1, S1, R1, h1⟩
  have hd1 := (need_name h1).2 hs
  have k1 := B1.blk kA (by omega)
  have B01 := bbut (But.of_below bA) B1
  have bC : Below w1.heap.size w1 (w1.alloc (.cells #[.int .i64 3, .int .i64 0, .string (str s), .slice none 0 0] 73)) := (Below.refl _ _).alloc (Nat.le_refl _) _
  have kC := Blk.new w1 #[.int .i64 3, .int .i64 0, .string (str s), .slice none 0 0] 73
  have k1' := k1.below bC k1.lt
  have hzk := k1.lt
  have K2 := is_b [91] b S1 _ (R1.below bC)
  obtain ⟨x, Hx⟩ : ∃ x, Hid (x = stands [91] S1) := ⟨_, rfl⟩
  rw [← Hx.out] at K2
  have HS := show Hid (_) from hs
  clear hs bA kA k1
  go_wp2_with fail
  refine K2.mono ?_
  rintro e w2 ⟨rfl, B2, R2⟩
  have k2 := B2.blk k1' (by omega)
  have kD := B2.blk kC (by omega)
  have B02 := bbut (bal B01 _) B2
  have hz2 : w1.heap.size < w2.heap.size := kD.lt
  clear K2 bC kC k1'
  cases x with
  | true =>
    obtain ⟨z2, ⟨d0, d1, d2, d3⟩, g0, g1, g2, g3⟩ := kD.four
    have k3 := k2.setOther ⟨w1.heap.size, 0, none⟩ (by show w.heap.size ≠ w1.heap.size; omega) (.int .i64 4)
    have kE := kD.set 0 (.int .i64 4)
    have R3 := R2.setOther (x := w1.heap.size) (i := 0) (v := .int .i64 4) (by omega) (by have := R.gl.sz; omega)
    have B03 := bnew (i := 0) (v := .int .i64 4) B02 (show w.heap.size ≤ w1.heap.size by omega)
    have hs3 : (w2.setCell ⟨w1.heap.size, 0, none⟩ (.int .i64 4)).heap.size = w2.heap.size := by simp
    have hN : need S1 + 16 ≤ need S := hd1
    go_upto_region 4 with fail
    generalize w2.setCell ⟨w1.heap.size, 0, none⟩ (.int .i64 4) = w3 at *
    clear d0 d1 d2 d3 g0 g1 g2 g3 z2 kD k2 R2 B02
    go_wp2_with fail
    refine (inner_n (N := n) (fun m hm => H m (by omega)) [91] [93] b S1 w3 R3 (by omega) (by omega)).mono ?_
    rintro e w4 ⟨op4, n4, s4, la4, lc4, es4, rfl, hl4, B4, S4, R4, hd4, h4⟩
    unfold exC
    have k4 := B4.blk k3 (by omega)
    have kF := B4.blk kE (by omega)
    have B04 := bbut B03 B4
    have hz4 := B4.size
    have row := row_one kF zb (by omega) (by omega : w1.heap.size < w3.heap.size) (by omega) hl4 B04 R4
    have HR : Hid (∀ la, Rel (namedT (n + 1)) S (pvAll (exF 4 0 s la 1 [exF op4 n4 s4 la4 lc4 es4])) S4) := by
      intro la
      show Rel (namedT (n + 1)) S _ _
      rw [namedT]
      exact h1.bind ((rel_is [91] S1).bind (by rw [← Hx.out]; exact h4.bind (Rel.pur _ _)))
    obtain ⟨z2, ⟨d0, d1, d2, d3⟩, g0, g1, g2, g3⟩ := kF.four
    clear h1 h4 Hx HS
    go_upto_region 8 with fail
    obtain ⟨kG, lie5, B05, R5, oth⟩ := row ((w4.setCell ⟨w1.heap.size, 3, none⟩ (.slice (some ⟨w4.heap.size, 0, none⟩) 1 1)).alloc (.cells #[.int .i64 op4, .int .i64 n4, .string (str s4), .slice la4 es4.length lc4] 73)) rfl
    have k5 := oth _ _ _ (by omega) k4
    clear row oth d0 d1 d2 d3 g0 g1 g2 g3 z2 kF k4
    generalize (w4.setCell ⟨w1.heap.size, 3, none⟩ (.slice (some ⟨w4.heap.size, 0, none⟩) 1 1)).alloc (.cells #[.int .i64 op4, .int .i64 n4, .string (str s4), .slice la4 es4.length lc4] 73) = w5 at *
    obtain ⟨z2, ⟨d0, d1, d2, d3⟩, g0, g1, g2, g3⟩ := kG.four
    obtain ⟨z1, ⟨c0, c1, c2, c3⟩, f0, f1, f2, f3⟩ := k5.four
    go_wp2
    exact ex_give (es := [exF op4 n4 s4 la4 lc4 es4]) Tryd.results89 rfl rfl k5 zb (Nat.le_refl _) (by omega : w.heap.size < w3.heap.size) (exF_lie (by omega) (by omega) lie5) B05 R5 (by omega) (HR.out _)
  | false =>
    have K3 := is_b [40] b S1 w2 R2
    obtain ⟨y, Hy⟩ : ∃ y, Hid (y = stands [40] S1) := ⟨_, rfl⟩
    rw [← Hy.out] at K3
    go_wp2_with fail
    refine K3.mono ?_
    rintro e w3 ⟨rfl, B3, R3⟩
    have k3 := B3.blk k2 (by omega)
    have kE := B3.blk kD (by omega)
    have B03 := bbut B02 B3
    have hz3 := B3.size
    clear K3 k2 kD R2 B02
    cases y with
    | true =>
      obtain ⟨z2, ⟨d0, d1, d2, d3⟩, g0, g1, g2, g3⟩ := kE.four
      have k4 := k3.setOther ⟨w1.heap.size, 0, none⟩ (by show w.heap.size ≠ w1.heap.size; omega) (.int .i64 5)
      have kF := kE.set 0 (.int .i64 5)
      have R4 := R3.setOther (x := w1.heap.size) (i := 0) (v := .int .i64 5) (by omega) (by have := R.gl.sz; omega)
      have B04 := bnew (i := 0) (v := .int .i64 5) B03 (show w.heap.size ≤ w1.heap.size by omega)
      have hs4 : (w3.setCell ⟨w1.heap.size, 0, none⟩ (.int .i64 5)).heap.size = w3.heap.size := by simp
      have hN : need S1 + 16 ≤ need S := hd1
      go_upto_region 7 with fail
      generalize w3.setCell ⟨w1.heap.size, 0, none⟩ (.int .i64 5) = w4 at *
      clear d0 d1 d2 d3 g0 g1 g2 g3 z2 kE k3 R3 B03
      go_wp2_with fail
      refine (args_b (N := n) (fun m hm => H m (by omega)) b S1 w4 R4 (by omega)).mono ?_
      rintro e w5 ⟨la5, lc5, es5, rfl, hl5, B5, S5, R5, hd5, h5, -⟩
      have k5 := B5.blk k4 (by omega)
      have kG := B5.blk kF (by omega)
      have B05 := bbut B04 B5
      have hz5 := B5.size
      have HR : Hid (Rel (namedT (n + 1)) S (pvAll (exF 5 0 s la5 lc5 es5)) S5) := by
        show Rel (namedT (n + 1)) S _ _
        rw [namedT]
        refine h1.bind ((rel_is [91] S1).bind ?_)
        rw [← Hx.out, if_neg Bool.false_ne_true]
        refine Rel.bind (F := isT [40]) (rel_is [40] S1) ?_
        rw [← Hy.out]
        exact Rel.bind (G := fun l => pur (exP 5 0 s l)) h5 (Rel.pur _ _)
      obtain ⟨z2, ⟨d0, d1, d2, d3⟩, g0, g1, g2, g3⟩ := kG.four
      have kH := kG.set 3 (.slice la5 es5.length lc5)
      have k6 := k5.setOther ⟨w1.heap.size, 3, none⟩ (by show w.heap.size ≠ w1.heap.size; omega) (.slice la5 es5.length lc5)
      have R6 := R5.setOther (x := w1.heap.size) (i := 3) (v := .slice la5 es5.length lc5) (by omega) (by have := R.gl.sz; omega)
      have B06 := bnew (i := 3) (v := .slice la5 es5.length lc5) B05 (show w.heap.size ≤ w1.heap.size by omega)
      have hl6 := Fld.lies_hi ((Hi.refl w4.heap.size w5).set (x := w1.heap.size) (i := 3) (v := .slice la5 es5.length lc5) (by omega)) _ hl5
      clear h1 h5 Hx HS Hy
      go_upto_region 8 with fail
      generalize w5.setCell ⟨w1.heap.size, 3, none⟩ (.slice la5 es5.length lc5) = w6 at *
      clear d0 d1 d2 d3 g0 g1 g2 g3 z2 kG k5
      obtain ⟨z2, ⟨d0, d1, d2, d3⟩, g0, g1, g2, g3⟩ := kH.four
      obtain ⟨z1, ⟨c0, c1, c2, c3⟩, f0, f1, f2, f3⟩ := k6.four
      go_wp2
      exact ex_give Tryd.results89 rfl rfl k6 zb (Nat.le_refl _) (by omega : w.heap.size < w4.heap.size) (exF_lie (by omega) (by omega) hl6) B06 R6 (by omega) HR.out
    | false =>
      have HR : Hid (Rel (namedT (n + 1)) S (pvAll (exF 3 0 s none 0 [])) S1) := by
        show Rel (namedT (n + 1)) S _ _
        rw [namedT]
        refine h1.bind ((rel_is [91] S1).bind ?_)
        rw [← Hx.out, if_neg Bool.false_ne_true]
        refine Rel.bind (F := isT [40]) (rel_is [40] S1) ?_
        rw [← Hy.out]
        exact Rel.pur _ _
      obtain ⟨z2, ⟨d0, d1, d2, d3⟩, g0, g1, g2, g3⟩ := kE.four
      obtain ⟨z1, ⟨c0, c1, c2, c3⟩, f0, f1, f2, f3⟩ := k3.four
      clear h1 Hx HS Hy
      go_wp2
      exact ex_give (es := []) Tryd.results89 rfl rfl k3 zb (Nat.le_refl _) (by omega : w.heap.size < w3.heap.size) (exF_lie (by omega) (by omega) (lies_none _ _)) B03 R3 (by omega) HR.out
end Go.Proofs.YtgpjlocgkdlnlaaDoor
