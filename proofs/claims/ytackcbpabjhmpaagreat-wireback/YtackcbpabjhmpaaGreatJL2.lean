import Derived.Test.YtackcbpabjhmpaaGreatM50
namespace Go.Proofs.YtackcbpabjhmpaaGreat
open Go.RowKit
set_option linter.unusedVariables false
set_option linter.unusedSimpArgs false
theorem back_of {K : Kd} {s : List UInt8} {fs : List Fld} {er pe : Int} {out : List UInt8} (hb : K.backs) (hg : GetP K s fs er) (hp : PutP K (pvAll fs) out pe) (he : er = 0) : pe = 0 ∧ out = s := by
 subst he
 rcases hg with ⟨_, h, _⟩ | ⟨_, _, _, _, h, _⟩ | ⟨vs, h1, ⟨h2, _, h4⟩ | ⟨_, h, _⟩⟩
 ·exact absurd rfl h
 ·cases h
 ·rw [h4] at hp
  rcases hp with ⟨_, q2, q3⟩ | ⟨q1, _, _⟩
  ·have := hb s vs [] h1
   rw [List.append_nil] at this
   exact ⟨q3, q2.trans this⟩
  ·exact absurd h2 q1
 ·cases h
def Dn (s : List UInt8) (ab bb : Nat) (w : World) : Prop := ∃ er pe out, Blk w ab (gotC er pe out) 24 ∧ Blk w bb (gotC er pe out) 24 ∧ (er = 0 → pe = 0 ∧ out = s)
abbrev got0 : Array Value := #[str [], .int .i64 0, .int .i64 0, str []]
structure Cs (K : Kd) (s : List UInt8) (ab bb : Nat) (w0 : World) (fs gs : List Fld) (er pe : Int) (out : List UInt8) (w : World) : Prop where
 a : Blk w ab (gotC er pe out) 24
 b : Blk w bb #[str [], .int .i64 er, .int .i64 0, str []] 24
 fit : fitsAll K.sc gs
 lie : lieAll w0.heap.size w gs
 pv : pvAll fs = pvAll gs
 put : PutP K (pvAll fs) out pe
 get : GetP K s fs er
 but : But (fun k => k = ab ∨ k = bb) w0 w
theorem Cs.dn {K : Kd} {s : List UInt8} {ab bb : Nat} {w0 : World} {fs gs : List Fld} {er pe pe' : Int} {out out' : List UInt8} {w w1 : World} (hb : K.backs) (hne : ab ≠ bb) (h : Cs K s ab bb w0 fs gs er pe out w) (b1 : Below w.heap.size w w1) (hp : PutP K (pvAll gs) out' pe') : Dn s ab bb ((w1.setCells bb 3 [str out']).setCells bb 2 [.int .i64 pe']) := by
 rw [← h.pv] at hp
 obtain ⟨e1, e2⟩ := h.put.uniq hp
 subst e1 e2
 refine ⟨er, pe, out, ?_, ((h.b.below b1 h.b.lt).putCells [str out] 3 _ _).putCells [.int .i64 pe] 2 _ _, back_of hb h.get h.put⟩
 exact (but_cells bb _ _ _).blk ((but_cells bb _ _ _).blk (h.a.below b1 h.a.lt) (fun q => hne q)) (fun q => hne q)
theorem cs_but {ab bb : Nat} {w w1 : World} {out : List UInt8} {pe : Int} (b1 : Below w.heap.size w w1) : But (fun k => k = ab ∨ k = bb) w ((w1.setCells bb 3 [str out]).setCells bb 2 [.int .i64 pe]) :=
 ((But.of_below b1).trans ((but_cells bb _ _ _).mono fun _ q => .inr q)).trans ((but_cells bb _ _ _).mono fun _ q => .inr q)
theorem case_agg {N gw gr pw id1 id2 id3 id4 id5 sx se sy sf i1 i2 i3 i4 i5 j1 j2 j3 j4 j5 x1 x2 y1 y2 k0 k1 k2 k3 k4 k5 k6 ab bb : Nat} {o1 o2 o3 o4 o5 o6 o7 o8 p1 p2 p3 p4 p5 p6 p7 p8 q1 q2 q3 r1 r2 r3 u0 u1 u2 u3 u4 u5 u6 u7 u8 : Oper} {rest : Code} {K : Kd} {ty te te' t1 t2 : TypeId} {ts ts' ts2 : Array TypeId} {s : List UInt8} {L : List (Nat × Value)} {A : Act} {w : World} {Q : Exit → Act → World → Prop}
  (hG : GetC gw K) (hR : GetC gr K) (hP : PutC pw K) (hw : K.wrap = .agg)
  (h1 : Is o1 (some i1) (.move (.tmp 1))) (h2 : Is o2 (some i2) (.call { callee := .value (.func gw), args := #[.tmp i1], argTypes := ts })) (h3 : Is o3 (some i3) (.move (.tmp i2))) (h4 : Is o4 (some i4) (.extract (.tmp i3) 0)) (h5 : Is o5 (some i5) (.extract (.tmp i3) 1)) (h6 : Is o6 (some sx) (.alloc ty)) (h7 : Is o7 none (.store ty (.tmp sx) (.tmp i4))) (h8 : Is o8 (some se) (.assign (.tmp i5)))
  (g1 : Is p1 (some j1) (.move (.tmp 1))) (g2 : Is p2 (some j2) (.call { callee := .value (.func gr), args := #[.tmp j1], argTypes := ts' })) (g3 : Is p3 (some j3) (.move (.tmp j2))) (g4 : Is p4 (some j4) (.extract (.tmp j3) 0)) (g5 : Is p5 (some j5) (.extract (.tmp j3) 1)) (g6 : Is p6 (some sy) (.alloc ty)) (g7 : Is p7 none (.store ty (.tmp sy) (.tmp j4))) (g8 : Is p8 (some sf) (.assign (.tmp j5)))
  (a1 : Is q1 (some x1) (.move (.tmp se))) (a2 : Is q2 (some x2) (.fieldAddr 24 (.tmp 6) 1)) (a3 : Is q3 none (.store te (.tmp x2) (.tmp x1))) (b1 : Is r1 (some y1) (.move (.tmp sf))) (b2 : Is r2 (some y2) (.fieldAddr 24 (.tmp 7) 1)) (b3 : Is r3 none (.store te' (.tmp y2) (.tmp y1)))
  (c0 : Is u0 (some k0) (.load ty (.tmp sx))) (c1 : Is u1 (some k1) (.call { callee := .value (.func pw), args := #[.tmp k0], argTypes := ts2 })) (c2 : Is u2 (some k2) (.move (.tmp k1))) (c3 : Is u3 (some k3) (.extract (.tmp k2) 0)) (c4 : Is u4 (some k4) (.extract (.tmp k2) 1)) (c5 : Is u5 (some k5) (.fieldAddr 24 (.tmp 6) 3)) (c6 : Is u6 none (.store t1 (.tmp k5) (.tmp k3))) (c7 : Is u7 (some k6) (.fieldAddr 24 (.tmp 6) 2)) (c8 : Is u8 none (.store t2 (.tmp k6) (.tmp k4)))
  (hz : (Tryz.prog.info? ty).map (fun i => (i.zero, i.size)) = some (some (.agg (zArr K.sc)), K.sc.length)) (hrt : rowT Tryz.prog ty = true) (s0 : (Tryz.prog.info? te).map (·.size) = some 1) (s0' : (Tryz.prog.info? te').map (·.size) = some 1) (s1 : (Tryz.prog.info? t1).map (·.size) = some 1) (s2 : (Tryz.prog.info? t2).map (·.size) = some 1) (f1 : fldOff Tryz.prog 24 1 = some 1) (f3 : fldOff Tryz.prog 24 3 = some 3) (f2 : fldOff Tryz.prog 24 2 = some 2)
  (chk1 : (freeOf [i1, i2, i3, i4, i5, sx, se] L && decide (i1 < N) && decide (i2 < N) && decide (i3 < N) && decide (i4 < N) && decide (i5 < N) && decide (sx < N) && decide (se < N) && decide (i4 ≠ i3) && decide (i5 ≠ i4) && decide (sx ≠ i4) && decide (sx ≠ i5) && decide (se ≠ sx)) = true)
  (chk2 : ∀ a b, (freeOf [j1, j2, j3, j4, j5, sy, sf] ((se, a) :: (sx, b) :: L) && decide (j1 < N) && decide (j2 < N) && decide (j3 < N) && decide (j4 < N) && decide (j5 < N) && decide (sy < N) && decide (sf < N) && decide (j4 ≠ j3) && decide (j5 ≠ j4) && decide (sy ≠ j4) && decide (sy ≠ j5) && decide (sf ≠ sy)) = true)
  (chk3 : ∀ a b c d, (freeOf [x1, x2] ((sf, a) :: (sy, b) :: (se, c) :: (sx, d) :: L) && decide (x1 < N) && decide (x2 < N) && decide (x2 ≠ x1)) = true) (chk4 : ∀ a b c d, (freeOf [y1, y2] ((sf, a) :: (sy, b) :: (se, c) :: (sx, d) :: L) && decide (y1 < N) && decide (y2 < N) && decide (y2 ≠ y1)) = true)
  (chk5 : ∀ a b c d, (freeOf [k0, k1, k2, k3, k4, k5, k6] ((sf, a) :: (sy, b) :: (se, c) :: (sx, d) :: L) && decide (k0 < N) && decide (k1 < N) && decide (k2 < N) && decide (k3 < N) && decide (k4 < N) && decide (k5 < N) && decide (k6 < N) && decide (k3 ≠ k2) && decide (k4 ≠ k3) && decide (k5 ≠ k3) && decide (k5 ≠ k4) && decide (k6 ≠ k4)) = true)
  (m1 : (1, str s) ∈ L) (m6 : (6, ptr ab) ∈ L) (m7 : (7, ptr bb) ∈ L) (F : Fr N L A) (hs : s.length ≤ 65536) (ka : Blk w ab got0 24) (kb : Blk w bb got0 24) (hne : ab ≠ bb)
  (K' : ∀ A' fs gs er pe out xb yb w', Fr N ((sy, ptr yb) :: (sx, ptr xb) :: L) A' → Cs K s ab bb w fs gs er pe out w' → Blk w' xb (fs.map Fld.val).toArray ty → Blk w' yb (gs.map Fld.val).toArray ty → w.heap.size ≤ xb → w.heap.size ≤ yb → rest.wp Tryz.prog Q A' w') :
  (Code.seq (.region id1 #[o1, o2, o3, o4, o5, o6, o7, o8] false) (.seq (.region id2 #[p1, p2, p3, p4, p5, p6, p7, p8] false) (.seq (.region id3 #[q1, q2, q3] false) (.seq (.region id4 #[r1, r2, r3] false) (.seq (.region id5 #[u0, u1, u2, u3, u4, u5, u6, u7, u8] false) rest))))).wp Tryz.prog Q A w := by
 have za := ka.lt
 have zb := kb.lt
 have hsz : (Tryz.prog.info? ty).map (·.size) = some K.sc.length := by
  cases hq : Tryz.prog.info? ty with
  | none => rw [hq] at hz; cases hz
  | some i => rw [hq] at hz; simp at hz ⊢; exact hz.2
 refine wp_seq (ca_get hG hw h1 h2 h3 h4 h5 h6 h7 h8 hz chk1 m1 F hs ?_)
 intro A1 fs er xb w1 F1 b1' hx kx lx fx px
 show Code.wp _ _ _ _ _
 refine wp_seq (ca_get hR hw g1 g2 g3 g4 g5 g6 g7 g8 hz (chk2 _ _) (by simp [m1]) F1 hs ?_)
 intro A2 gs er' yb w2 F2 b2' hy ky ly fy py
 show Code.wp _ _ _ _ _
 obtain ⟨epv, rfl⟩ := px.uniq py
 have kx2 := kx.below b2' kx.lt
 have lx2 := lx.hi (lo := w.heap.size) (Hi.of_below b2')
 have ly2 := ly.mono b1'.size
 have bw := b1'.trans (b2'.mono b1'.size)
 have ka2 := ka.below bw za
 have kb2 := kb.below bw zb
 have hzs := b1'.size
 refine wp_seq (ca_err (er := er) (gb := ab) a1 a2 a3 s0 f1 (chk3 _ _ _ _) (by simp) (by simp [m6]) F2 ka2 rfl ?_)
 intro A3 F3
 show Code.wp _ _ _ _ _
 have B3 := but_cells ab [.int .i64 er] 1 w2
 have ka3 : Blk (w2.setCells ab 1 [.int .i64 er]) ab #[str [], .int .i64 er, .int .i64 0, str []] 24 := ka2.putCells [.int .i64 er] 1 _ _
 have kb3 := B3.blk kb2 (fun q => hne q.symm)
 have kx3 := B3.blk kx2 (by omega)
 have ky3 := B3.blk ky (by omega)
 have lx3 := lx2.hi (Hi.of_but B3 (fun k q => by omega))
 have ly3 := ly2.hi (Hi.of_but B3 (fun k q => by omega))
 have bt3 : But (fun k => k = ab ∨ k = bb) w (w2.setCells ab 1 [.int .i64 er]) := (But.of_below bw).trans (B3.mono fun _ q => .inl q)
 generalize w2.setCells ab 1 [.int .i64 er] = w3 at *
 refine wp_seq (ca_err (er := er) (gb := bb) b1 b2 b3 s0' f1 (chk4 _ _ _ _) (by simp) (by simp [m7]) F3 kb3 rfl ?_)
 intro A4 F4
 show Code.wp _ _ _ _ _
 have B4 := but_cells bb [.int .i64 er] 1 w3
 have kb4 : Blk (w3.setCells bb 1 [.int .i64 er]) bb #[str [], .int .i64 er, .int .i64 0, str []] 24 := kb3.putCells [.int .i64 er] 1 _ _
 have ka4 := B4.blk ka3 (fun q => hne q)
 have kx4 := B4.blk kx3 (by omega)
 have ky4 := B4.blk ky3 (by omega)
 have lx4 := lx3.hi (Hi.of_but B4 (fun k q => by omega))
 have ly4 := ly3.hi (Hi.of_but B4 (fun k q => by omega))
 have bt4 : But (fun k => k = ab ∨ k = bb) w (w3.setCells bb 1 [.int .i64 er]) := bt3.trans (B4.mono fun _ q => .inr q)
 generalize w3.setCells bb 1 [.int .i64 er] = w4 at *
 refine wp_seq (ca_put (K := K) (fs := fs) (gb := ab) hP ⟨c0.1, c0.2.2⟩ c1 c2 c3 c4 c5 c6 c7 c8 s1 s2 f3 f2 (chk5 _ _ _ _) (by simp [m6]) F4 (by rw [hw]; exact load_op (i := 0) (b := xb) c0.2.1 hrt (by rw [hsz, fits_len fx]) (by simp) kx4 A4 F4) fx lx4 ka4 rfl ?_)
 intro A5 out pe w5 F5 b5 hp5
 show Code.wp _ _ _ _ _
 have B5a := but_cells ab [str out] 3 w5
 have B5b := but_cells ab [.int .i64 pe] 2 (w5.setCells ab 3 [str out])
 have B5 := B5a.trans B5b
 have ka5 : Blk ((w5.setCells ab 3 [str out]).setCells ab 2 [.int .i64 pe]) ab (gotC er pe out) 24 := ((ka4.below b5 ka4.lt).putCells [str out] 3 _ _).putCells [.int .i64 pe] 2 _ _
 refine K' A5 fs gs er pe out xb yb _ (F5.sub fun p hp => ?_) ⟨ka5, B5.blk (kb4.below b5 kb4.lt) (fun q => hne q.symm), fy, (ly4.hi (Hi.of_below b5)).hi (Hi.of_but B5 (fun k q => by omega)), epv, hp5, px, (bt4.trans (But.of_below b5)).trans (B5.mono fun _ q => .inl q)⟩ (B5.blk (kx4.below b5 kx4.lt) (by omega)) (B5.blk (ky4.below b5 ky4.lt) (by omega)) hx (by omega)
 rcases List.mem_cons.1 hp with rfl | hp
 ·simp
 rcases List.mem_cons.1 hp with rfl | hp
 ·simp
 ·simp [hp]
theorem case_slot {N gw gr pw pr id1 id2 id3 id4 id5 id6 sx se sy sf i1 i2 i3 i4 i5 j1 j2 j3 j4 j5 x1 x2 y1 y2 k0 k1 k2 k3 k4 k5 k6 l0 l1 l2 l3 l4 l5 l6 ab bb : Nat} {o1 o2 o3 o4 o5 o6 o7 p1 p2 p3 p4 p5 p6 p7 q1 q2 q3 r1 r2 r3 u0 u1 u2 u3 u4 u5 u6 u7 u8 v0 v1 v2 v3 v4 v5 v6 v7 v8 : Oper} {K : Kd} {te te' t1 t2 t3 t4 : TypeId} {ts ts' ts2 ts3 : Array TypeId} {s : List UInt8} {L : List (Nat × Value)} {A : Act} {w : World} {Q : Exit → Act → World → Prop}
  (hG : GetC gw K) (hR : GetC gr K) (hP : PutC pw K) (hPr : PutC pr K) (hbk : K.backs)
  (h1 : Is o1 (some i1) (.move (.tmp 1))) (h2 : Is o2 (some i2) (.call { callee := .value (.func gw), args := #[.tmp i1], argTypes := ts })) (h3 : Is o3 (some i3) (.move (.tmp i2))) (h4 : Is o4 (some i4) (.extract (.tmp i3) 0)) (h5 : Is o5 (some i5) (.extract (.tmp i3) 1)) (h6 : Is o6 (some sx) (.assign (.tmp i4))) (h7 : Is o7 (some se) (.assign (.tmp i5)))
  (g1 : Is p1 (some j1) (.move (.tmp 1))) (g2 : Is p2 (some j2) (.call { callee := .value (.func gr), args := #[.tmp j1], argTypes := ts' })) (g3 : Is p3 (some j3) (.move (.tmp j2))) (g4 : Is p4 (some j4) (.extract (.tmp j3) 0)) (g5 : Is p5 (some j5) (.extract (.tmp j3) 1)) (g6 : Is p6 (some sy) (.assign (.tmp j4))) (g7 : Is p7 (some sf) (.assign (.tmp j5)))
  (a1 : Is q1 (some x1) (.move (.tmp se))) (a2 : Is q2 (some x2) (.fieldAddr 24 (.tmp 6) 1)) (a3 : Is q3 none (.store te (.tmp x2) (.tmp x1))) (b1 : Is r1 (some y1) (.move (.tmp sf))) (b2 : Is r2 (some y2) (.fieldAddr 24 (.tmp 7) 1)) (b3 : Is r3 none (.store te' (.tmp y2) (.tmp y1)))
  (c0 : Is u0 (some k0) (.move (.tmp sx))) (c1 : Is u1 (some k1) (.call { callee := .value (.func pw), args := #[.tmp k0], argTypes := ts2 })) (c2 : Is u2 (some k2) (.move (.tmp k1))) (c3 : Is u3 (some k3) (.extract (.tmp k2) 0)) (c4 : Is u4 (some k4) (.extract (.tmp k2) 1)) (c5 : Is u5 (some k5) (.fieldAddr 24 (.tmp 6) 3)) (c6 : Is u6 none (.store t1 (.tmp k5) (.tmp k3))) (c7 : Is u7 (some k6) (.fieldAddr 24 (.tmp 6) 2)) (c8 : Is u8 none (.store t2 (.tmp k6) (.tmp k4)))
  (d0 : Is v0 (some l0) (.move (.tmp sy))) (d1 : Is v1 (some l1) (.call { callee := .value (.func pr), args := #[.tmp l0], argTypes := ts3 })) (d2 : Is v2 (some l2) (.move (.tmp l1))) (d3 : Is v3 (some l3) (.extract (.tmp l2) 0)) (d4 : Is v4 (some l4) (.extract (.tmp l2) 1)) (d5 : Is v5 (some l5) (.fieldAddr 24 (.tmp 7) 3)) (d6 : Is v6 none (.store t3 (.tmp l5) (.tmp l3))) (d7 : Is v7 (some l6) (.fieldAddr 24 (.tmp 7) 2)) (d8 : Is v8 none (.store t4 (.tmp l6) (.tmp l4)))
  (s0 : (Tryz.prog.info? te).map (·.size) = some 1) (s0' : (Tryz.prog.info? te').map (·.size) = some 1) (s1 : (Tryz.prog.info? t1).map (·.size) = some 1) (s2 : (Tryz.prog.info? t2).map (·.size) = some 1) (s3 : (Tryz.prog.info? t3).map (·.size) = some 1) (s4 : (Tryz.prog.info? t4).map (·.size) = some 1) (f1 : fldOff Tryz.prog 24 1 = some 1) (f3 : fldOff Tryz.prog 24 3 = some 3) (f2 : fldOff Tryz.prog 24 2 = some 2)
  (chk1 : (freeOf [i1, i2] L && decide (i1 < N) && decide (i2 < N)) = true) (chk1' : (freeOf [i3, i4, i5, sx, se] L && decide (i3 < N) && decide (i4 < N) && decide (i5 < N) && decide (sx < N) && decide (se < N) && decide (i4 ≠ i3) && decide (i5 ≠ i4) && decide (sx ≠ i5) && decide (se ≠ sx)) = true)
  (chk2 : ∀ a b, (freeOf [j1, j2] ((sx, a) :: (se, b) :: L) && decide (j1 < N) && decide (j2 < N)) = true) (chk2' : ∀ a b, (freeOf [j3, j4, j5, sy, sf] ((sx, a) :: (se, b) :: L) && decide (j3 < N) && decide (j4 < N) && decide (j5 < N) && decide (sy < N) && decide (sf < N) && decide (j4 ≠ j3) && decide (j5 ≠ j4) && decide (sy ≠ j5) && decide (sf ≠ sy)) = true)
  (chk3 : ∀ a b c d, (freeOf [x1, x2] ((sy, a) :: (sf, b) :: (sx, c) :: (se, d) :: L) && decide (x1 < N) && decide (x2 < N) && decide (x2 ≠ x1)) = true) (chk4 : ∀ a b c d, (freeOf [y1, y2] ((sy, a) :: (sf, b) :: (sx, c) :: (se, d) :: L) && decide (y1 < N) && decide (y2 < N) && decide (y2 ≠ y1)) = true)
  (chk5 : ∀ a b c d, (freeOf [k0, k1, k2, k3, k4, k5, k6] ((sy, a) :: (sf, b) :: (sx, c) :: (se, d) :: L) && decide (k0 < N) && decide (k1 < N) && decide (k2 < N) && decide (k3 < N) && decide (k4 < N) && decide (k5 < N) && decide (k6 < N) && decide (k3 ≠ k2) && decide (k4 ≠ k3) && decide (k5 ≠ k3) && decide (k5 ≠ k4) && decide (k6 ≠ k4)) = true)
  (chk6 : ∀ a b c d, (freeOf [l0, l1, l2, l3, l4, l5, l6] ((sy, a) :: (sf, b) :: (sx, c) :: (se, d) :: L) && decide (l0 < N) && decide (l1 < N) && decide (l2 < N) && decide (l3 < N) && decide (l4 < N) && decide (l5 < N) && decide (l6 < N) && decide (l3 ≠ l2) && decide (l4 ≠ l3) && decide (l5 ≠ l3) && decide (l5 ≠ l4) && decide (l6 ≠ l4)) = true)
  (m1 : (1, str s) ∈ L) (m6 : (6, ptr ab) ∈ L) (m7 : (7, ptr bb) ∈ L) (F : Fr N L A) (hs : s.length ≤ 65536) (ka : Blk w ab got0 24) (kb : Blk w bb got0 24) (hne : ab ≠ bb)
  (K' : ∀ A' w', Fr N L A' → Dn s ab bb w' → But (fun k => k = ab ∨ k = bb) w w' → Q .normal A' w') :
  (Code.seq (.region id1 #[o1, o2, o3, o4, o5, o6, o7] false) (.seq (.region id2 #[p1, p2, p3, p4, p5, p6, p7] false) (.seq (.region id3 #[q1, q2, q3] false) (.seq (.region id4 #[r1, r2, r3] false) (.seq (.region id5 #[u0, u1, u2, u3, u4, u5, u6, u7, u8] false) (.region id6 #[v0, v1, v2, v3, v4, v5, v6, v7, v8] false)))))).wp Tryz.prog Q A w := by
 have za := ka.lt
 have zb := kb.lt
 refine wp_seq (ca_getS hG h1 h2 h3 h4 h5 h6 h7 chk1 chk1' m1 F hs ?_)
 intro A1 fs er w1 F1 b1' lx fx px
 show Code.wp _ _ _ _ _
 refine wp_seq (ca_getS hR g1 g2 g3 g4 g5 g6 g7 (chk2 _ _) (chk2' _ _) (by simp [m1]) F1 hs ?_)
 intro A2 gs er' w2 F2 b2' ly fy py
 show Code.wp _ _ _ _ _
 obtain ⟨epv, rfl⟩ := px.uniq py
 have lx2 := lx.hi (lo := w.heap.size) (Hi.of_below b2')
 have ly2 := ly.mono b1'.size
 have bw := b1'.trans (b2'.mono b1'.size)
 have ka2 := ka.below bw za
 have kb2 := kb.below bw zb
 refine wp_seq (ca_err (er := er) (gb := ab) a1 a2 a3 s0 f1 (chk3 _ _ _ _) (by simp) (by simp [m6]) F2 ka2 rfl ?_)
 intro A3 F3
 show Code.wp _ _ _ _ _
 have B3 := but_cells ab [.int .i64 er] 1 w2
 have ka3 : Blk (w2.setCells ab 1 [.int .i64 er]) ab #[str [], .int .i64 er, .int .i64 0, str []] 24 := ka2.putCells [.int .i64 er] 1 _ _
 have kb3 := B3.blk kb2 (fun q => hne q.symm)
 have lx3 := lx2.hi (Hi.of_but B3 (fun k q => by omega))
 have ly3 := ly2.hi (Hi.of_but B3 (fun k q => by omega))
 have bt3 : But (fun k => k = ab ∨ k = bb) w (w2.setCells ab 1 [.int .i64 er]) := (But.of_below bw).trans (B3.mono fun _ q => .inl q)
 generalize w2.setCells ab 1 [.int .i64 er] = w3 at *
 refine wp_seq (ca_err (er := er) (gb := bb) b1 b2 b3 s0' f1 (chk4 _ _ _ _) (by simp) (by simp [m7]) F3 kb3 rfl ?_)
 intro A4 F4
 show Code.wp _ _ _ _ _
 have B4 := but_cells bb [.int .i64 er] 1 w3
 have kb4 : Blk (w3.setCells bb 1 [.int .i64 er]) bb #[str [], .int .i64 er, .int .i64 0, str []] 24 := kb3.putCells [.int .i64 er] 1 _ _
 have ka4 := B4.blk ka3 (fun q => hne q)
 have lx4 := lx3.hi (Hi.of_but B4 (fun k q => by omega))
 have ly4 := ly3.hi (Hi.of_but B4 (fun k q => by omega))
 have bt4 : But (fun k => k = ab ∨ k = bb) w (w3.setCells bb 1 [.int .i64 er]) := bt3.trans (B4.mono fun _ q => .inr q)
 generalize w3.setCells bb 1 [.int .i64 er] = w4 at *
 refine wp_seq (ca_put (K := K) (fs := fs) (gb := ab) hP ⟨c0.1, c0.2.2⟩ c1 c2 c3 c4 c5 c6 c7 c8 s1 s2 f3 f2 (chk5 _ _ _ _) (by simp [m6]) F4 (by unfold execOp; rw [c0.2.1]; show (pure (Next.value (A4.eval (.tmp sx))) : Sem Next).run _ _ = _; rw [F4.get (by simp : (sx, K.wrap (fs.map Fld.val).toArray) ∈ _)]; rfl) fx lx4 ka4 rfl ?_)
 intro A5 out pe w5 F5 b5 hp5
 show Code.wp _ _ _ _ _
 have B5a := but_cells ab [str out] 3 w5
 have B5b := but_cells ab [.int .i64 pe] 2 (w5.setCells ab 3 [str out])
 have B5 := B5a.trans B5b
 have ka5 : Blk ((w5.setCells ab 3 [str out]).setCells ab 2 [.int .i64 pe]) ab (gotC er pe out) 24 := ((ka4.below b5 ka4.lt).putCells [str out] 3 _ _).putCells [.int .i64 pe] 2 _ _
 have H : Cs K s ab bb w fs gs er pe out ((w5.setCells ab 3 [str out]).setCells ab 2 [.int .i64 pe]) := ⟨ka5, B5.blk (kb4.below b5 kb4.lt) (fun q => hne q.symm), fy, (ly4.hi (Hi.of_below b5)).hi (Hi.of_but B5 (fun k q => by omega)), epv, hp5, px, (bt4.trans (But.of_below b5)).trans (B5.mono fun _ q => .inl q)⟩
 generalize (w5.setCells ab 3 [str out]).setCells ab 2 [.int .i64 pe] = w6 at *
 refine ca_put (K := K) (fs := gs) (gb := bb) hPr ⟨d0.1, d0.2.2⟩ d1 d2 d3 d4 d5 d6 d7 d8 s3 s4 f3 f2 (chk6 _ _ _ _) (by simp [m7]) F5 (by unfold execOp; rw [d0.2.1]; show (pure (Next.value (A5.eval (.tmp sy))) : Sem Next).run _ _ = _; rw [F5.get (by simp : (sy, K.wrap (gs.map Fld.val).toArray) ∈ _)]; rfl) H.fit H.lie H.b rfl ?_
 intro A6 out' pe' w7 F6 b7 hp7
 exact K' A6 _ F6.tl.tl.tl.tl (H.dn hbk hne b7 hp7) (H.but.trans (cs_but b7))
end Go.Proofs.YtackcbpabjhmpaaGreat
