import Derived.Test.YtackcbpabjhmpaaGreatM39
namespace Go.Proofs.YtackcbpabjhmpaaGreat
open Go.RowKit
set_option linter.unusedVariables false
set_option linter.unusedSimpArgs false
theorem built_pass (S : ByteArray) : Tryz.prog.built 185 [(0, .bool true), (2, .string S)] = some #[.bool true, .slice none 0 0, .string S] := by kernel_rfl
theorem getP_err {K : Kd} {s : List UInt8} {er : Int} (h : er ≠ 0 ∧ (K.rd s = .error er ∨ (er = 4 ∧ ∃ vs c r, K.rd s = .ok (vs, c :: r)))) : GetP K s (zFs K.sc) er := by
 obtain ⟨h1, h2 | ⟨rfl, vs, c, r, h2⟩⟩ := h
 ·exact .inl ⟨h2, h1, rfl⟩
 ·exact .inr (.inl ⟨vs, c, r, h2, rfl, rfl⟩)
structure GetOps (ty tw tpp : TypeId) (clo : Nat) (a1 a2 a3 b1 b2 c1 c2 c3 c4 c5 d1 d2 d3 e1 e2 e3 e4 e5 e6 e7 e8 f1 g1 g2 h1 h2 h3 h4 k1 k2 k3 : Oper) (ts ts' : Array TypeId) (ti tj tk tl tm : TypeId) : Prop where
 a1 : Is a1 (some 4) (.box tw (.tmp 1))
 a2 : Is a2 (some 6) (.alloc ty)
 a3 : Is a3 (some 7) (.assign (.const (.int .i64 0)))
 b1 : Is b1 (some 8) (.alloc ty)
 b2 : Is b2 (some 9) (.alloc ty)
 c1 : Is c1 (some 12) (.move (.tmp 0))
 c2 : Is c2 (some 13) (.build 185 #[(0, .const (.bool true)), (2, .tmp 12)])
 c3 : Is c3 (some 14) (.box 185 (.tmp 13))
 c4 : Is c4 (some 10) (.alloc tpp)
 c5 : Is c5 none (.store tpp (.tmp 10) (.tmp 14))
 d1 : Is d1 (some 15) (.makeFunc (.func clo) #[] #[.tmp 4, .tmp 10, .tmp 8])
 d2 : Is d2 (some 16) (.call { callee := .value (.func 117), args := #[.tmp 15], argTypes := ts })
 d3 : Is d3 (some 11) (.assign (.tmp 16))
 e1 : Is e1 (some 17) (.move (.tmp 11))
 e2 : Is e2 (some 18) (.binOp .eql ti (.tmp 17) (.const (.int .i64 0)) tj)
 e3 : Is e3 (some 19) (.move (.tmp 18))
 e4 : e4.dst = some 20 ∧ e4.op = .move (.tmp 2) ∧ e4.guard = some (2, true)
 e5 : e5.dst = some 21 ∧ e5.op = .load ty (.tmp 8) ∧ e5.guard = some (2, true)
 e6 : e6.dst = some 22 ∧ e6.op = .call { callee := .value (.tmp 20), args := #[.tmp 21], argTypes := ts' } ∧ e6.guard = some (2, true)
 e7 : e7.dst = some 23 ∧ e7.op = .unOp .not tk (.tmp 22) ∧ e7.guard = some (2, true)
 e8 : Is e8 (some 24) (.pick (.tmp 19) (.tmp 23) (.const (.bool false)))
 f1 : Is f1 (some 11) (.assign (.const (.int .i64 2)))
 g1 : Is g1 (some 25) (.move (.tmp 11))
 g2 : Is g2 (some 26) (.binOp .neq tl (.tmp 25) (.const (.int .i64 0)) tm)
 h1 : Is h1 (some 27) (.load ty (.tmp 9))
 h2 : Is h2 (some 28) (.move (.tmp 11))
 h3 : Is h3 none (.store ty (.tmp 6) (.tmp 27))
 h4 : Is h4 (some 7) (.assign (.tmp 28))
 k1 : Is k1 (some 29) (.load ty (.tmp 8))
 k2 : Is k2 none (.store ty (.tmp 6) (.tmp 29))
 k3 : Is k3 (some 7) (.assign (.const (.int .i64 0)))
theorem gx_give {rb : Nat} {fn : Func} {w : World} {C : Array Value} {er : Int} {ty : TypeId} {A : Act} {R : Ending → World → Prop} {Q : Exit → Act → World → Prop} (hQ : ∀ a w, bodyPost Tryz.prog fn R .ret a w → Q .ret a w) (hres : fn.results = #[.cell 6 ty, .tmp 7]) (hrt : rowT Tryz.prog ty = true) (hsz : (Tryz.prog.info? ty).map (·.size) = some C.size)
  (m6 : A.eval (.tmp 6) = ptr rb) (m7 : A.eval (.tmp 7) = .int .i64 er) (hd : A.defers = []) (kr : Blk w rb C ty) (K : R (.returned (.tuple #[.agg C, .int .i64 er])) w) : Code.ret.wp Tryz.prog Q A w := by
 obtain ⟨d, hu, hrd⟩ := rowT_out hrt
 refine wp_ret (hQ _ _ ?_)
 have hld := run_loadVar_mid (P := Tryz.prog) w rb 0 ty C.toList d kr.range hu hrd (by rw [hsz]; simp)
 rw [Array.toArray_toList] at hld
 refine bodyPost_ret (v := .tuple #[.agg C, .int .i64 er]) ?_ hd K
 have e2 : A.tmps[6]?.getD undef = .pointer (some ⟨rb, 0, none⟩) := by
  have := m6
  unfold Act.eval at this
  rw [← Array.getD_eq_getD_getElem?]
  exact this
 have e3 : A.tmps[7]?.getD undef = .int .i64 er := by
  have := m7
  unfold Act.eval at this
  rw [← Array.getD_eq_getD_getElem?]
  exact this
 simp [results, hres, asAddr, e2, e3, hld]
set_option maxHeartbeats 3200000 in
theorem get_x {f wf mf clo i0 i1 i2 i3 i4 i5 i6 i7 i8 id0 id1 : Nat} {fn fc : Func} {K : Kd} {ty tw tpp tp ti tj tk tl tm : TypeId} {ts ts' tc td : Array TypeId} {a1 a2 a3 b1 b2 c1 c2 c3 c4 c5 d1 d2 d3 e1 e2 e3 e4 e5 e6 e7 e8 f1 g1 g2 h1 h2 h3 h4 k1 k2 k3 x1 x2 x3 y1 y2 : Oper}
  (hW : WalkX wf K) (hM : MayX mf K) (hwr : K.wrap = .agg) (hsane : K.sc.all Sc.sane = true) (hf : Tryz.prog.funcs[f]? = some fn) (hN : fn.ntmps = 30) (hres : fn.results = #[.cell 6 ty, .tmp 7])
  (hb : fn.body = some (Code.seq (.region i0 #[a1, a2, a3] false) (.seq (.region i1 #[b1, b2] false) (.seq (.region i2 #[c1, c2, c3, c4, c5] false) (.seq (.region i3 #[d1, d2, d3] false) (.seq (.seq (.region i4 #[e1, e2, e3, e4, e5, e6, e7, e8] false) (.cond (.tmp 24) (.region i5 #[f1] false) .skip)) (.seq (.seq (.region i6 #[g1, g2] false) (.cond (.tmp 26) (.seq (.region i7 #[h1, h2, h3, h4] false) .ret) .skip)) (.seq (.region i8 #[k1, k2, k3] false) .ret))))))))
  (O : GetOps ty tw tpp clo a1 a2 a3 b1 b2 c1 c2 c3 c4 c5 d1 d2 d3 e1 e2 e3 e4 e5 e6 e7 e8 f1 g1 g2 h1 h2 h3 h4 k1 k2 k3 ts ts' ti tj tk tl tm) (hz : (Tryz.prog.info? ty).map (fun i => (i.zero, i.size)) = some (some (.agg (zArr K.sc)), K.sc.length)) (hrt : rowT Tryz.prog ty = true) (hzp : (Tryz.prog.info? tpp).map (fun i => (i.zero, i.size)) = some (some (.pointer none), 1))
  (cE : enters Tryz.prog clo = true) (cf : Tryz.prog.funcs[clo]? = some fc) (cb : fc.body = some (Code.seq (Code.region id0 #[x1, x2, x3] false) (Code.region id1 #[y1, y2] false))) (cN : fc.ntmps = 8) (cres : fc.results = #[])
  (q1 : Is x1 (some 3) (.load tw (.tmp 0))) (q2 : Is x2 (some 4) (.load tp (.tmp 1))) (q3 : Is x3 (some 5) (.call { callee := .value (.tmp 3), args := #[.tmp 4, .tmp 2], argTypes := tc })) (q4 : Is y1 (some 6) (.load tp (.tmp 1))) (q5 : Is y2 (some 7) (.call { callee := .value (.func 121), args := #[.tmp 6], argTypes := td })) (hw : cellT Tryz.prog tw = true) (hp : cellT Tryz.prog tp = true) (s : List UInt8) (w : World) (hL : s.length ≤ 65536) :
  Calls Tryz.prog f #[str s, .func (.func wf) #[] #[], .func (.func mf) #[] #[]] w (GetQ K s w) := by
 have hsz : (Tryz.prog.info? ty).map (·.size) = some K.sc.length := by
  cases hq : Tryz.prog.info? ty with
  | none => rw [hq] at hz; cases hz
  | some i => rw [hq] at hz; simp at hz ⊢; exact hz.2
 have hzone : ∀ u ∈ (zArr K.sc).toList, u.oneCell' = true := fun u hu => by rw [← zFs_val] at hu; exact flds_one _ u hu
 obtain ⟨d, hu, hrd⟩ := rowT_out hrt
 refine calls_of_wp hf hb ?_
 have F := fr_three (x := str s) (y := .func (.func wf) #[] #[]) (z := .func (.func mf) #[] #[]) hN (by omega)
 generalize ({ tmps := #[str s, .func (.func wf) #[] #[], .func (.func mf) #[] #[]] ++ Array.replicate (fn.ntmps - (#[str s, .func (.func wf) #[] #[], .func (.func mf) #[] #[]] : Array Value).size) undef, defers := [] } : Act) = A at F ⊢
 refine wp_seq (wp_region_list ?_)
 show wpList _ _ _ [a1, a2, a3] _ _
 refine ol_box O.a1.2.2 O.a1.2.1 (F.get (by simp : (1, Value.func (.func wf) #[] #[]) ∈ _)) ?_
 rw [O.a1.1]
 have F1 := F.set (i := 4) (v := ptr w.heap.size) (by omega) rfl
 have kf := Blk.new w #[.func (.func wf) #[] #[]] tw
 have bw := (Below.refl w.heap.size w).alloc (Nat.le_refl _) (.cells #[.func (.func wf) #[] #[]] tw)
 have z1 : (w.alloc (.cells #[.func (.func wf) #[] #[]] tw)).heap.size = w.heap.size + 1 := World.size_alloc _ _
 show wpList _ _ _ _ (A.put (some 4) (ptr w.heap.size)) (w.alloc (.cells #[.func (.func wf) #[] #[]] tw))
 generalize A.put (some 4) (ptr w.heap.size) = A1 at *
 generalize w.alloc (.cells #[.func (.func wf) #[] #[]] tw) = w1 at *
 refine ol_alloc O.a2.2.2 O.a2.2.1 hz ?_
 rw [O.a2.1]
 have F2 := F1.set (i := 6) (v := ptr w1.heap.size) (by omega) rfl
 have kr := Blk.new w1 (zArr K.sc) ty
 have kf := kf.alloc (.cells (zArr K.sc) ty)
 have bw := bw.alloc bw.size (.cells (zArr K.sc) ty)
 have z2 : (w1.alloc (.cells (zArr K.sc) ty)).heap.size = w1.heap.size + 1 := World.size_alloc _ _
 show wpList _ _ _ _ (A1.put (some 6) (ptr w1.heap.size)) (w1.alloc (.cells (zArr K.sc) ty))
 generalize A1.put (some 6) (ptr w1.heap.size) = A2 at *
 generalize w1.alloc (.cells (zArr K.sc) ty) = w2 at *
 refine ol_move O.a3.2.2 (.inr O.a3.2.1) ?_
 rw [O.a3.1]
 have F3 := F2.put (v := .int .i64 0) (is := [7]) (i := 7) rfl (by simp)
 show wpList _ _ _ _ (A2.put (some 7) (.int .i64 0)) _
 generalize A2.put (some 7) (.int .i64 0) = A3 at *
 refine wpList_nil ?_
 show Code.wp _ _ _ _ _
 refine wp_seq (wp_region_list ?_)
 show wpList _ _ _ [b1, b2] _ _
 refine ol_alloc O.b1.2.2 O.b1.2.1 hz ?_
 rw [O.b1.1]
 have F4 := F3.set (i := 8) (v := ptr w2.heap.size) (by omega) rfl
 have kx := Blk.new w2 (zArr K.sc) ty
 have kf := kf.alloc (.cells (zArr K.sc) ty)
 have kr := kr.alloc (.cells (zArr K.sc) ty)
 have bw := bw.alloc bw.size (.cells (zArr K.sc) ty)
 have z3 : (w2.alloc (.cells (zArr K.sc) ty)).heap.size = w2.heap.size + 1 := World.size_alloc _ _
 show wpList _ _ _ _ (A3.put (some 8) (ptr w2.heap.size)) (w2.alloc (.cells (zArr K.sc) ty))
 generalize A3.put (some 8) (ptr w2.heap.size) = A4 at *
 generalize w2.alloc (.cells (zArr K.sc) ty) = w3 at *
 refine ol_alloc O.b2.2.2 O.b2.2.1 hz ?_
 rw [O.b2.1]
 have F5 := F4.set (i := 9) (v := ptr w3.heap.size) (by omega) rfl
 have kn := Blk.new w3 (zArr K.sc) ty
 have kf := kf.alloc (.cells (zArr K.sc) ty)
 have kr := kr.alloc (.cells (zArr K.sc) ty)
 have kx := kx.alloc (.cells (zArr K.sc) ty)
 have bw := bw.alloc bw.size (.cells (zArr K.sc) ty)
 have z4 : (w3.alloc (.cells (zArr K.sc) ty)).heap.size = w3.heap.size + 1 := World.size_alloc _ _
 show wpList _ _ _ _ (A4.put (some 9) (ptr w3.heap.size)) (w3.alloc (.cells (zArr K.sc) ty))
 generalize A4.put (some 9) (ptr w3.heap.size) = A5 at *
 generalize w3.alloc (.cells (zArr K.sc) ty) = w4 at *
 refine wpList_nil ?_
 show Code.wp _ _ _ _ _
 refine wp_seq (wp_region_list ?_)
 show wpList _ _ _ [c1, c2, c3, c4, c5] _ _
 refine ol_move O.c1.2.2 (.inl O.c1.2.1) ?_
 rw [O.c1.1, F5.get (by simp : (0, str s) ∈ _)]
 have F6 := F5.set (i := 12) (v := str s) (by omega) rfl
 generalize A5.put (some 12) (str s) = A6 at *
 refine ol_build O.c2.2.2 O.c2.2.1 (Z := #[.bool true, .slice none 0 0, str s]) (by rw [List.map_toArray]; simp only [List.map_cons, List.map_nil, F6.get (by simp : (12, str s) ∈ _)]; exact built_pass _) ?_
 rw [O.c2.1]
 have F7 := F6.set (i := 13) (v := .agg #[.bool true, .slice none 0 0, str s]) (by omega) rfl
 generalize A6.put (some 13) (.agg #[.bool true, .slice none 0 0, str s]) = A7 at *
 refine ol_box O.c3.2.2 O.c3.2.1 (F7.get (by simp : (13, Value.agg #[.bool true, .slice none 0 0, str s]) ∈ _)) ?_
 rw [O.c3.1]
 have F8 := F7.set (i := 14) (v := ptr w4.heap.size) (by omega) rfl
 have kp := Blk.new w4 #[.bool true, .slice none 0 0, str s] 185
 have kf := kf.alloc (.cells #[.bool true, .slice none 0 0, str s] 185)
 have kr := kr.alloc (.cells #[.bool true, .slice none 0 0, str s] 185)
 have kx := kx.alloc (.cells #[.bool true, .slice none 0 0, str s] 185)
 have kn := kn.alloc (.cells #[.bool true, .slice none 0 0, str s] 185)
 have bw := bw.alloc bw.size (.cells #[.bool true, .slice none 0 0, str s] 185)
 have z5 : (w4.alloc (.cells #[.bool true, .slice none 0 0, str s] 185)).heap.size = w4.heap.size + 1 := World.size_alloc _ _
 show wpList _ _ _ _ (A7.put (some 14) (ptr w4.heap.size)) (w4.alloc (.cells #[.bool true, .slice none 0 0, str s] 185))
 generalize A7.put (some 14) (ptr w4.heap.size) = A8 at *
 generalize w4.alloc (.cells #[.bool true, .slice none 0 0, str s] 185) = w5 at *
 refine ol_alloc O.c4.2.2 O.c4.2.1 hzp ?_
 rw [O.c4.1]
 have F9 := F8.set (i := 10) (v := ptr w5.heap.size) (by omega) rfl
 have kv := Blk.new w5 #[.pointer none] tpp
 have kf := kf.alloc (.cells #[.pointer none] tpp)
 have kr := kr.alloc (.cells #[.pointer none] tpp)
 have kx := kx.alloc (.cells #[.pointer none] tpp)
 have kn := kn.alloc (.cells #[.pointer none] tpp)
 have kp := kp.alloc (.cells #[.pointer none] tpp)
 have bw := bw.alloc bw.size (.cells #[.pointer none] tpp)
 have z6 : (w5.alloc (.cells #[.pointer none] tpp)).heap.size = w5.heap.size + 1 := World.size_alloc _ _
 show wpList _ _ _ _ (A8.put (some 10) (ptr w5.heap.size)) (w5.alloc (.cells #[.pointer none] tpp))
 generalize A8.put (some 10) (ptr w5.heap.size) = A9 at *
 generalize w5.alloc (.cells #[.pointer none] tpp) = w6 at *
 refine ol_store O.c5.2.2 O.c5.1 O.c5.2.1 (F9.get (by simp : (10, ptr w5.heap.size) ∈ _)) (F9.get (by simp : (14, ptr w4.heap.size) ∈ _)) (kv.thereAt 0 _ (by show 0 + 1 ≤ 1; omega)) (by
  cases hq : Tryz.prog.info? tpp with
  | none => rw [hq] at hzp; cases hzp
  | some i => rw [hq] at hzp; simp at hzp ⊢; exact hzp.2) (fun u hu => by rw [List.mem_singleton.1 (show u ∈ [ptr w4.heap.size] from hu)]; rfl) ?_
 have bs : But (fun k => k = w5.heap.size) w6 (w6.setCells w5.heap.size 0 [ptr w4.heap.size]) := but_cells _ _ _ _
 have kv : Blk (w6.setCells w5.heap.size 0 [ptr w4.heap.size]) w5.heap.size #[ptr w4.heap.size] tpp := kv.putCells [ptr w4.heap.size] 0 _ _
 have kf := bs.blk kf (by omega)
 have kr := bs.blk kr (by omega)
 have kx := bs.blk kx (by omega)
 have kn := bs.blk kn (by omega)
 have kp := bs.blk kp (by omega)
 have bw := bw.trans (bs.below (B := w.heap.size) bw.size (fun k q => by omega))
 have z7 := bs.size
 show wpList _ _ _ _ _ (w6.setCells w5.heap.size 0 [ptr w4.heap.size])
 generalize w6.setCells w5.heap.size 0 [ptr w4.heap.size] = w7 at *
 clear bs
 refine wpList_nil ?_
 show Code.wp _ _ _ _ _
 have bE : Below w7.heap.size w7 (w7.alloc (.cells #[.int .i64 0] 22)) := (Below.refl _ _).alloc (Nat.le_refl _) _
 have hrd : RdAt w7 w4.heap.size s := kp
 have hclo := clo_x (fb := w.heap.size) (pv := w5.heap.size) (b := w4.heap.size) (xb := w2.heap.size) (w := w7.alloc (.cells #[.int .i64 0] 22)) hW cf cb cN cres q1 q2 q3 q4 q5 hw hp (kf.alloc _) (kv.alloc _) ⟨by omega, by omega⟩ (Blk.alloc hrd _) (kx.alloc _) (by omega) (by omega : s.length ≤ 1000000)
 have hatt := attempt_x clo cE #[ptr w.heap.size, ptr w5.heap.size, ptr w2.heap.size] w7 (fun er w1 => TrX K w4.heap.size w2.heap.size ty s (w7.alloc (.cells #[.int .i64 0] 22)) er w1) (hclo.mono fun e w1 hT => ⟨hT, by
  have hB : But (fun k => k = w4.heap.size ∨ k = w2.heap.size) (w7.alloc (.cells #[.int .i64 0] 22)) w1 := by
   rcases hT with ⟨_, q⟩ | ⟨er, _, q⟩
   ·exact q.1
   ·exact q.1
  have q := hB.blk (Blk.new w7 #[.int .i64 0] 22) (fun q => by rcases q with q | q <;> omega)
  exact ⟨(q.cell 0).trans rfl, q.frozen 0⟩⟩)
 clear hclo
 refine wp_seq (wp_region_list ?_)
 show wpList _ _ _ [d1, d2, d3] _ _
 refine ol_val (w' := w7) (v := .func (.func clo) #[] #[ptr w.heap.size, ptr w5.heap.size, ptr w2.heap.size]) O.d1.2.2 (by
  unfold execOp
  rw [O.d1.2.1]
  simp only [List.map_toArray, List.map_cons, List.map_nil, F9.get (by simp : (4, ptr w.heap.size) ∈ _), F9.get (by simp : (10, ptr w5.heap.size) ∈ _), F9.get (by simp : (8, ptr w2.heap.size) ∈ _)]
  rfl) ?_
 rw [O.d1.1]
 have F10 := F9.set (i := 15) (v := .func (.func clo) #[] #[ptr w.heap.size, ptr w5.heap.size, ptr w2.heap.size]) (by omega) rfl
 generalize A9.put (some 15) (.func (.func clo) #[] #[ptr w.heap.size, ptr w5.heap.size, ptr w2.heap.size]) = A10 at *
 refine ol_call O.d2.2.2 (by kernel_rfl) O.d2.2.1 (vs := #[.func (.func clo) #[] #[ptr w.heap.size, ptr w5.heap.size, ptr w2.heap.size]]) (by rw [List.map_toArray]; simp only [List.map_cons, List.map_nil]; rw [F10.get (by simp : (15, Value.func (.func clo) #[] #[ptr w.heap.size, ptr w5.heap.size, ptr w2.heap.size]) ∈ _)]) hatt ?_
 rintro e w9 ⟨er, w8, ⟨hB, hT⟩, rfl, rfl⟩
 refine ⟨_, rfl, ?_⟩
 rw [O.d2.1]
 have F11 := F10.set (i := 16) (v := .int .i64 er) (by omega) rfl
 generalize A10.put (some 16) (.int .i64 er) = A11 at *
 refine ol_move O.d3.2.2 (.inr O.d3.2.1) ?_
 rw [O.d3.1, F11.get (by simp : (16, Value.int .i64 er) ∈ _)]
 have F12 := F11.set (i := 11) (v := .int .i64 er) (by omega) rfl
 generalize A11.put (some 11) (.int .i64 er) = A12 at *
 refine wpList_nil ?_
 show Code.wp _ _ _ _ _
 have B2 : But (fun k => k = w4.heap.size ∨ k = w2.heap.size) w7 (w8.setCell ⟨w7.heap.size, 0, none⟩ (.int .i64 er)) :=
  ((But.of_below bE).trans hB).trans_new (But.set (S := fun k => k = w7.heap.size) w8 (p := ⟨w7.heap.size, 0, none⟩) rfl _) (fun k hk q => by omega)
 have bw := bw.trans (B2.below (B := w.heap.size) bw.size (fun k q => by rcases q with q | q <;> omega))
 have kr := B2.blk kr (fun q => by rcases q with q | q <;> omega)
 have kn := B2.blk kn (fun q => by rcases q with q | q <;> omega)
 have F13 : Fr 30 [(11, .int .i64 er), (9, ptr w3.heap.size), (8, ptr w2.heap.size), (6, ptr w1.heap.size), (2, .func (.func mf) #[] #[])] A12 := F12.sub (by intro p hp; simp at hp ⊢; rcases hp with h | h | h | h | h <;> simp [h])
 clear F F1 F2 F3 F4 F5 F6 F7 F8 F9 F10 F11 F12 hatt
 have hT2 : (er ≠ 0 ∧ (K.rd s = .error er ∨ (er = 4 ∧ ∃ vs c r, K.rd s = .ok (vs, c :: r)))) ∨ (er = 0 ∧ ∃ fs, K.rd s = .ok (pvAll fs, []) ∧ fitsAll K.sc fs ∧ Blk (w8.setCell ⟨w7.heap.size, 0, none⟩ (.int .i64 er)) w2.heap.size (fs.map Fld.val).toArray ty ∧ lieAll w7.heap.size (w8.setCell ⟨w7.heap.size, 0, none⟩ (.int .i64 er)) fs) := by
  rcases hT with h | ⟨h1, fs, h2, h3, h4, h5⟩
  ·exact .inl h
  ·refine .inr ⟨h1, fs, h2, h3, h4.setOther ⟨w7.heap.size, 0, none⟩ (by show w2.heap.size ≠ w7.heap.size; omega) _, ?_⟩
   rw [World.size_alloc] at h5
   exact (h5.hi (Hi.of_but (But.set (S := fun k => k = w7.heap.size) w8 (p := ⟨w7.heap.size, 0, none⟩) rfl _) (fun k q => by omega))).mono (by omega)
 clear hT hB kf kx kp kv B2 bE hrd
 generalize w8.setCell ⟨w7.heap.size, 0, none⟩ (.int .i64 er) = w9 at *
 have last : ∀ (A' : Act) (er' : Int) (w' : World), Fr 30 [(11, .int .i64 er'), (9, ptr w3.heap.size), (8, ptr w2.heap.size), (6, ptr w1.heap.size), (2, .func (.func mf) #[] #[])] A' → Below w.heap.size w w' → Blk w' w1.heap.size (zArr K.sc) ty → Blk w' w3.heap.size (zArr K.sc) ty → ((er' ≠ 0 ∧ GetP K s (zFs K.sc) er') ∨ (er' = 0 ∧ ∃ fs, GetP K s fs 0 ∧ fitsAll K.sc fs ∧ Blk w' w2.heap.size (fs.map Fld.val).toArray ty ∧ lieAll w7.heap.size w' fs)) →
   Code.wp Tryz.prog (.seq (.seq (.region i6 #[g1, g2] false) (.cond (.tmp 26) (.seq (.region i7 #[h1, h2, h3, h4] false) .ret) .skip)) (.seq (.region i8 #[k1, k2, k3] false) .ret)) (bodyPost Tryz.prog fn (GetQ K s w)) A' w' := by
  intro A' er' w' F bw kr kn H
  refine wp_seq (wp_seq (wp_region_list ?_))
  show wpList _ _ _ [g1, g2] _ _
  refine ol_move O.g1.2.2 (.inl O.g1.2.1) ?_
  rw [O.g1.1, F.get (by simp : (11, Value.int .i64 er') ∈ _)]
  have F1 := F.set (i := 25) (v := .int .i64 er') (by omega) rfl
  generalize A'.put (some 25) (.int .i64 er') = A1 at *
  refine ol_val O.g2.2.2 (run_neq O.g2.2.1 (F1.get (by simp : (25, Value.int .i64 er') ∈ _)) rfl) ?_
  rw [O.g2.1]
  have F2 := F1.tl.set (i := 26) (v := .bool (er' != 0)) (by omega) rfl
  generalize A1.put (some 26) (.bool (er' != 0)) = A2 at *
  refine wpList_nil ?_
  show Code.wp _ _ _ _ _
  rcases H with ⟨he, hG⟩ | ⟨rfl, fs, hG, hfit, kx, hl⟩
  ·have hb : (er' != 0) = true := by simpa using he
   rw [hb] at F2
   refine wp_cond_true (F2.get (by simp : (26, Value.bool true) ∈ _)) (wp_seq (wp_region_list ?_))
   show wpList _ _ _ [h1, h2, h3, h4] _ _
   refine ol_row O.h1.2.2 O.h1.2.1 (F2.get (by simp : (9, ptr w3.heap.size) ∈ _)) (cs := (zArr K.sc).toList) kn.range hu hrd (by rw [hsz]; simp [zArr_size]) ?_
   rw [O.h1.1, Array.toArray_toList]
   have F3 := F2.set (i := 27) (v := .agg (zArr K.sc)) (by omega) rfl
   generalize A2.put (some 27) (.agg (zArr K.sc)) = A3 at *
   refine ol_move O.h2.2.2 (.inl O.h2.2.1) ?_
   rw [O.h2.1, F3.get (by simp : (11, Value.int .i64 er') ∈ _)]
   have F4 := F3.set (i := 28) (v := .int .i64 er') (by omega) rfl
   generalize A3.put (some 28) (.int .i64 er') = A4 at *
   refine ol_store O.h3.2.2 O.h3.1 O.h3.2.1 (F4.get (by simp : (6, ptr w1.heap.size) ∈ _)) (F4.get (by simp : (27, Value.agg (zArr K.sc)) ∈ _)) (kr.thereAt 0 _ (by show 0 + (zArr K.sc).size ≤ _; omega)) (by rw [hsz]; show _ = some (zArr K.sc).size; rw [zArr_size]) hzone ?_
   refine ol_move O.h4.2.2 (.inr O.h4.2.1) ?_
   rw [O.h4.1, F4.get (by simp : (28, Value.int .i64 er') ∈ _)]
   have F5 := F4.set (i := 7) (v := .int .i64 er') (by omega) rfl
   have kr2 := kr.putCells (zArr K.sc).toList 0 _ _
   rw [putAt_all (by simp), Array.toArray_toList] at kr2
   have bs := but_cells w1.heap.size (zArr K.sc).toList 0 w'
   refine wpList_nil ?_
   show Code.wp _ _ _ _ (w'.setCells w1.heap.size 0 (zArr K.sc).toList)
   exact gx_give (fn := fn) (R := GetQ K s w) (fun _ _ h => h) hres hrt (by rw [hsz, zArr_size]) (F5.get (by simp : (6, ptr w1.heap.size) ∈ _)) (F5.get (by simp : (7, Value.int .i64 er') ∈ _)) F5.2.1 kr2 ⟨zFs K.sc, er', by rw [hwr, zFs_val], bw.trans (bs.below bw.size (fun k q => by omega)), zFs_lie _ _ _, zFs_fit _ hsane, hG⟩
  ·refine wp_cond_false (F2.get (by simp : (26, Value.bool false) ∈ _)) (wp_skip ?_)
   show Code.wp _ _ _ _ _
   have hlen := fits_len hfit
   refine wp_seq (wp_region_list ?_)
   show wpList _ _ _ [k1, k2, k3] _ _
   refine ol_row O.k1.2.2 O.k1.2.1 (F2.get (by simp : (8, ptr w2.heap.size) ∈ _)) (cs := fs.map Fld.val) kx.range hu hrd (by rw [hsz]; simp [hlen]) ?_
   rw [O.k1.1]
   have F3 := F2.set (i := 29) (v := .agg (fs.map Fld.val).toArray) (by omega) rfl
   generalize A2.put (some 29) (.agg (fs.map Fld.val).toArray) = A3 at *
   refine ol_store O.k2.2.2 O.k2.1 O.k2.2.1 (F3.get (by simp : (6, ptr w1.heap.size) ∈ _)) (F3.get (by simp : (29, Value.agg (fs.map Fld.val).toArray) ∈ _)) (kr.thereAt 0 _ (by show 0 + (fs.map Fld.val).toArray.size ≤ _; rw [zArr_size]; simp [hlen])) (by rw [hsz]; show _ = some (fs.map Fld.val).toArray.size; simp [hlen]) (flds_one fs) ?_
   refine ol_move O.k3.2.2 (.inr O.k3.2.1) ?_
   rw [O.k3.1]
   have F4 := F3.set (i := 7) (v := .int .i64 0) (by omega) rfl
   have kr2 := kr.putCells (fs.map Fld.val) 0 _ _
   rw [putAt_all (by rw [zArr_size]; simp [hlen])] at kr2
   have bs := but_cells w1.heap.size (fs.map Fld.val) 0 w'
   refine wpList_nil ?_
   show Code.wp _ _ _ (A3.put (some 7) (.int .i64 0)) (w'.setCells w1.heap.size 0 (fs.map Fld.val))
   exact gx_give (fn := fn) (R := GetQ K s w) (fun _ _ h => h) hres hrt (by rw [hsz]; simp [hlen]) (F4.get (by simp : (6, ptr w1.heap.size) ∈ _)) (F4.get (by simp : (7, Value.int .i64 0) ∈ _)) F4.2.1 kr2 ⟨fs, 0, by rw [hwr], bw.trans (bs.below bw.size (fun k q => by omega)), (hl.hi (Hi.of_but bs (fun k q => by omega))).mono (by omega), hfit, hG⟩
 refine wp_seq (wp_seq (wp_region_list ?_))
 show wpList _ _ _ [e1, e2, e3, e4, e5, e6, e7, e8] _ _
 refine ol_move O.e1.2.2 (.inl O.e1.2.1) ?_
 rw [O.e1.1, F13.get (by simp : (11, Value.int .i64 er) ∈ _)]
 have F1 := F13.set (i := 17) (v := .int .i64 er) (by omega) rfl
 generalize A12.put (some 17) (.int .i64 er) = A1 at *
 refine ol_val O.e2.2.2 (run_eql O.e2.2.1 (F1.get (by simp : (17, Value.int .i64 er) ∈ _)) rfl) ?_
 rw [O.e2.1]
 have F2 := F1.tl.set (i := 18) (v := .bool (er == 0)) (by omega) rfl
 generalize A1.put (some 18) (.bool (er == 0)) = A2 at *
 refine ol_move O.e3.2.2 (.inl O.e3.2.1) ?_
 rw [O.e3.1, F2.get (by simp : (18, Value.bool (er == 0)) ∈ _)]
 have F3 := F2.tl.set (i := 19) (v := .bool (er == 0)) (by omega) rfl
 generalize A2.put (some 19) (.bool (er == 0)) = A3 at *
 have hdst : ((#[e1, e2, e3, e4, e5, e6, e7, e8] : Array Oper)[2]?).bind (·.dst) = some 19 := O.e3.1
 generalize (#[e1, e2, e3, e4, e5, e6, e7, e8] : Array Oper) = ops at *
 rcases hT2 with hE | ⟨rfl, fs, hr, hfit, kx, hl⟩
 ·have hb : (er == 0) = false := by simpa using hE.1
  rw [hb] at F3
  refine ol_off O.e4.2.2 hdst (by rw [F3.1]; omega) (F3.get (by simp : (19, Value.bool false) ∈ _)) ?_
  rw [O.e4.1]
  have F4 := F3.put (v := undef) (is := [20]) (i := 20) rfl (by simp)
  generalize A3.put (some 20) undef = A4 at *
  refine ol_off O.e5.2.2 hdst (by rw [F4.1]; omega) (F4.get (by simp : (19, Value.bool false) ∈ _)) ?_
  rw [O.e5.1]
  have F5 := F4.put (v := undef) (is := [21]) (i := 21) rfl (by simp)
  generalize A4.put (some 21) undef = A5 at *
  refine ol_off O.e6.2.2 hdst (by rw [F5.1]; omega) (F5.get (by simp : (19, Value.bool false) ∈ _)) ?_
  rw [O.e6.1]
  have F6 := F5.put (v := undef) (is := [22]) (i := 22) rfl (by simp)
  generalize A5.put (some 22) undef = A6 at *
  refine ol_off O.e7.2.2 hdst (by rw [F6.1]; omega) (F6.get (by simp : (19, Value.bool false) ∈ _)) ?_
  rw [O.e7.1]
  have F7 := F6.put (v := undef) (is := [23]) (i := 23) rfl (by simp)
  generalize A6.put (some 23) undef = A7 at *
  have ec : A7.eval (.const (.bool false)) = .bool false := rfl
  refine ol_val O.e8.2.2 (w' := w9) (v := .bool false) (by unfold execOp; rw [O.e8.2.1]; simp [F7.get (by simp : (19, Value.bool false) ∈ _), asBool, ec]) ?_
  rw [O.e8.1]
  have F8 := F7.tl.set (i := 24) (v := .bool false) (by omega) rfl
  generalize A7.put (some 24) (.bool false) = A8 at *
  refine wpList_nil ?_
  show Code.wp _ _ _ _ _
  refine wp_cond_false (F8.get (by simp : (24, Value.bool false) ∈ _)) (wp_skip ?_)
  show Code.wp _ _ _ _ _
  exact last A8 er w9 F8.tl bw kr kn (.inl ⟨hE.1, getP_err hE⟩)
 ·have hlen := fits_len hfit
  refine ol_on O.e4.2.2 hdst (by rw [F3.1]; omega) (F3.get (by simp : (19, Value.bool ((0 : Int) == 0)) ∈ _)) (w' := w9) (v := .func (.func mf) #[] #[]) (by unfold execOp; rw [O.e4.2.1]; simp only [F3.get (by simp : (2, Value.func (.func mf) #[] #[]) ∈ _)]; rfl) ?_
  rw [O.e4.1]
  have F4 := F3.set (i := 20) (v := .func (.func mf) #[] #[]) (by omega) rfl
  generalize A3.put (some 20) (.func (.func mf) #[] #[]) = A4 at *
  refine ol_on O.e5.2.2 hdst (by rw [F4.1]; omega) (F4.get (by simp : (19, Value.bool ((0 : Int) == 0)) ∈ _)) (w' := w9) (v := .agg (fs.map Fld.val).toArray) (by
   unfold execOp
   rw [O.e5.2.1]
   simp only [F4.get (by simp : (8, ptr w2.heap.size) ∈ _)]
   have := run_loadAt_mid (P := Tryz.prog) w9 w2.heap.size 0 ty (fs.map Fld.val) d kx.range hu hrd (by rw [hsz]; simp [hlen])
   simp only [ptr, Sem.run_bind, this]
   rfl) ?_
  rw [O.e5.1]
  have F5 := F4.set (i := 21) (v := .agg (fs.map Fld.val).toArray) (by omega) rfl
  generalize A4.put (some 21) (.agg (fs.map Fld.val).toArray) = A5 at *
  have hmc := hM.2 _ fs w9 hfit hl
  rw [hwr] at hmc
  refine ol_callv_on O.e6.2.2 hdst (by rw [F5.1]; omega) (F5.get (by simp : (19, Value.bool ((0 : Int) == 0)) ∈ _)) hM.1 O.e6.2.1 (F5.get (by simp : (20, Value.func (.func mf) #[] #[]) ∈ _)) (vs := #[.agg (fs.map Fld.val).toArray]) (by rw [List.map_toArray]; simp only [List.map_cons, List.map_nil]; rw [F5.get (by simp : (21, Value.agg (fs.map Fld.val).toArray) ∈ _)]) hmc ?_
  rintro e w10 ⟨b, rfl, hbm, bM⟩
  refine ⟨_, rfl, ?_⟩
  rw [O.e6.1]
  have F6 := F5.set (i := 22) (v := .bool b) (by omega) rfl
  generalize A5.put (some 22) (.bool b) = A6 at *
  refine ol_on O.e7.2.2 hdst (by rw [F6.1]; omega) (F6.get (by simp : (19, Value.bool ((0 : Int) == 0)) ∈ _)) (w' := w10) (v := .bool (!b)) (by unfold execOp; rw [O.e7.2.1]; simp only [F6.get (by simp : (22, Value.bool b) ∈ _)]; rfl) ?_
  rw [O.e7.1]
  have F7 := F6.set (i := 23) (v := .bool (!b)) (by omega) rfl
  generalize A6.put (some 23) (.bool (!b)) = A7 at *
  refine ol_val O.e8.2.2 (w' := w10) (v := .bool (!b)) (by unfold execOp; rw [O.e8.2.1]; simp [F7.get (by simp : (19, Value.bool ((0 : Int) == 0)) ∈ _), F7.get (by simp : (23, Value.bool (!b)) ∈ _), asBool]) ?_
  rw [O.e8.1]
  have F8 := F7.set (i := 24) (v := .bool (!b)) (by omega) rfl
  generalize A7.put (some 24) (.bool (!b)) = A8 at *
  have F9 : Fr 30 [(24, .bool (!b)), (11, .int .i64 0), (9, ptr w3.heap.size), (8, ptr w2.heap.size), (6, ptr w1.heap.size), (2, .func (.func mf) #[] #[])] A8 := F8.sub (by intro p hp; simp at hp ⊢; rcases hp with h | h | h | h | h | h <;> simp [h])
  refine wpList_nil ?_
  show Code.wp _ _ _ _ _
  have bw2 := bw.trans (bM.mono bw.size)
  have kr2 := kr.below bM kr.lt
  have kn2 := kn.below bM kn.lt
  cases b with
  | true =>
   refine wp_cond_false (F9.get (by simp : (24, Value.bool (!true)) ∈ _)) (wp_skip ?_)
   show Code.wp _ _ _ _ _
   exact last A8 0 w10 F9.tl bw2 kr2 kn2 (.inr ⟨rfl, fs, .inr (.inr ⟨_, hr, .inl ⟨hbm.1 rfl, rfl, rfl⟩⟩), hfit, kx.below bM kx.lt, hl.hi (Hi.of_below bM)⟩)
  | false =>
   refine wp_cond_true (F9.get (by simp : (24, Value.bool (!false)) ∈ _)) (wp_region_list ?_)
   show wpList _ _ _ [f1] _ _
   refine ol_move O.f1.2.2 (.inr O.f1.2.1) ?_
   rw [O.f1.1]
   have F10 : Fr 30 [(11, .int .i64 2), (9, ptr w3.heap.size), (8, ptr w2.heap.size), (6, ptr w1.heap.size), (2, .func (.func mf) #[] #[])] (A8.put (some 11) (.int .i64 2)) := F9.tl.tl.set (by omega) rfl
   refine wpList_nil ?_
   show Code.wp _ _ _ (A8.put (some 11) (.int .i64 2)) _
   exact last _ 2 w10 F10 bw2 kr2 kn2 (.inl ⟨by omega, .inr (.inr ⟨_, hr, .inr ⟨fun q => (by have := hbm.2 q; cases this), rfl, rfl⟩⟩)⟩)
theorem face_x {f g wf mf id0 id1 : Nat} {fn : Func} {K : Kd} {ty : TypeId} {ts : Array TypeId} {a1 a2 b1 b2 b3 b4 b5 b6 : Oper} (hG : ∀ s w, s.length ≤ 65536 → Calls Tryz.prog g #[str s, .func (.func wf) #[] #[], .func (.func mf) #[] #[]] w (GetQ K s w)) (gE : enters Tryz.prog g = true) (hE : enters Tryz.prog f = true) (hwr : K.wrap = .agg) (hf : Tryz.prog.funcs[f]? = some fn) (hN : fn.ntmps = 8) (hres : fn.results = #[.cell 2 ty, .tmp 3])
  (hb : fn.body = some (Code.seq (.region id0 #[a1, a2] false) (.seq (.region id1 #[b1, b2, b3, b4, b5, b6] false) .ret))) (h1 : Is a1 (some 2) (.alloc ty)) (h2 : Is a2 (some 3) (.assign (.const (.int .i64 0)))) (h3 : Is b1 (some 4) (.move (.tmp 0))) (h4 : Is b2 (some 5) (.call { callee := .value (.func g), args := #[.tmp 4, .func wf, .func mf], argTypes := ts })) (h5 : Is b3 (some 6) (.extract (.tmp 5) 0)) (h6 : Is b4 (some 7) (.extract (.tmp 5) 1)) (h7 : Is b5 none (.store ty (.tmp 2) (.tmp 6))) (h8 : Is b6 (some 3) (.assign (.tmp 7)))
  (hz : (Tryz.prog.info? ty).map (fun i => (i.zero, i.size)) = some (some (.agg (zArr K.sc)), K.sc.length)) (hrt : rowT Tryz.prog ty = true) : GetC f K := by
 refine ⟨hE, fun s w hs => ?_⟩
 have hsz : (Tryz.prog.info? ty).map (·.size) = some K.sc.length := by
  cases hq : Tryz.prog.info? ty with
  | none => rw [hq] at hz; cases hz
  | some i => rw [hq] at hz; simp at hz ⊢; exact hz.2
 obtain ⟨d, hu, hrd⟩ := rowT_out hrt
 refine calls_of_wp hf hb ?_
 have F := fr_one (v := str s) hN (by omega)
 generalize ({ tmps := #[str s] ++ Array.replicate (fn.ntmps - (#[str s] : Array Value).size) undef, defers := [] } : Act) = A at F ⊢
 refine wp_seq (wp_region_list ?_)
 show wpList _ _ _ [a1, a2] _ _
 refine ol_alloc h1.2.2 h1.2.1 hz ?_
 rw [h1.1]
 have F1 := F.set (i := 2) (v := ptr w.heap.size) (by omega) rfl
 have kr := Blk.new w (zArr K.sc) ty
 have hw1' := kr.lt
 have bA : Below w.heap.size w (w.alloc (.cells (zArr K.sc) ty)) := (Below.refl _ _).alloc (Nat.le_refl _) _
 show wpList _ _ _ _ (A.put (some 2) (ptr w.heap.size)) (w.alloc (.cells (zArr K.sc) ty))
 generalize A.put (some 2) (ptr w.heap.size) = A1 at *
 generalize w.alloc (.cells (zArr K.sc) ty) = w1 at *
 refine ol_move h2.2.2 (.inr h2.2.1) ?_
 rw [h2.1]
 have F2 := F1.put (v := .int .i64 0) (is := [3]) (i := 3) rfl (by simp)
 show wpList _ _ _ _ (A1.put (some 3) (.int .i64 0)) _
 generalize A1.put (some 3) (.int .i64 0) = A2 at *
 refine wpList_nil ?_
 show Code.wp _ _ _ _ _
 refine wp_seq (wp_region_list ?_)
 show wpList _ _ _ [b1, b2, b3, b4, b5, b6] _ _
 refine ol_move h3.2.2 (.inl h3.2.1) ?_
 rw [h3.1, F2.get (by simp : (0, str s) ∈ _)]
 have F3 := F2.set (i := 4) (v := str s) (by omega) rfl
 generalize A2.put (some 4) (str s) = A3 at *
 refine ol_call h4.2.2 gE h4.2.1 (vs := #[str s, .func (.func wf) #[] #[], .func (.func mf) #[] #[]]) (by rw [List.map_toArray]; simp only [List.map_cons, List.map_nil]; rw [F3.get (by simp : (4, str s) ∈ _)]; rfl) (hG s w1 hs) ?_
 rintro e w2 ⟨fs, er, rfl, b2', hl, hfit, hP⟩
 refine ⟨_, rfl, ?_⟩
 rw [h4.1, hwr]
 have hlen := fits_len hfit
 have F4 := F3.set (i := 5) (v := .tuple #[.agg (fs.map Fld.val).toArray, .int .i64 er]) (by omega) rfl
 generalize A3.put (some 5) (.tuple #[.agg (fs.map Fld.val).toArray, .int .i64 er]) = A4 at *
 refine ol_extract h5.2.2 h5.2.1 (F4.get (by simp : (5, Value.tuple #[.agg (fs.map Fld.val).toArray, .int .i64 er]) ∈ _)) (v := .agg (fs.map Fld.val).toArray) rfl ?_
 rw [h5.1]
 have F5 := F4.set (i := 6) (v := .agg (fs.map Fld.val).toArray) (by omega) rfl
 generalize A4.put (some 6) (.agg (fs.map Fld.val).toArray) = A5 at *
 refine ol_extract h6.2.2 h6.2.1 (F5.get (by simp : (5, Value.tuple #[.agg (fs.map Fld.val).toArray, .int .i64 er]) ∈ _)) (v := .int .i64 er) rfl ?_
 rw [h6.1]
 have F6 := F5.set (i := 7) (v := .int .i64 er) (by omega) rfl
 generalize A5.put (some 7) (.int .i64 er) = A6 at *
 have kr := kr.below b2' kr.lt
 refine ol_store h7.2.2 h7.1 h7.2.1 (F6.get (by simp : (2, ptr w.heap.size) ∈ _)) (F6.get (by simp : (6, Value.agg (fs.map Fld.val).toArray) ∈ _)) (kr.thereAt 0 _ (by show 0 + (fs.map Fld.val).toArray.size ≤ _; rw [zArr_size]; simp [hlen])) (by rw [hsz]; show _ = some (fs.map Fld.val).toArray.size; simp [hlen]) (flds_one fs) ?_
 refine ol_move h8.2.2 (.inr h8.2.1) ?_
 rw [h8.1, F6.get (by simp : (7, Value.int .i64 er) ∈ _)]
 have F7 := F6.set (i := 3) (v := .int .i64 er) (by omega) rfl
 have kr2 := kr.putCells (fs.map Fld.val) 0 _ _
 rw [putAt_all (by rw [zArr_size]; simp [hlen])] at kr2
 have bs := but_cells w.heap.size (fs.map Fld.val) 0 w2
 have z1 := bA.size
 have bw := bA.trans (b2'.mono bA.size)
 refine wpList_nil ?_
 show Code.wp _ _ _ (A6.put (some 3) (.int .i64 er)) (w2.setCells w.heap.size 0 (fs.map Fld.val))
 generalize A6.put (some 3) (.int .i64 er) = A7 at *
 refine wp_ret (bodyPost_ret (v := .tuple #[.agg (fs.map Fld.val).toArray, .int .i64 er]) ?_ F7.2.1 ⟨fs, er, by rw [hwr], bw.trans (bs.below bw.size (fun k q => by omega)), (hl.hi (Hi.of_but bs (fun k q => by omega))).mono (by omega), hfit, hP⟩)
 generalize w2.setCells w.heap.size 0 (fs.map Fld.val) = w3 at *
 have hld := run_loadVar_mid (P := Tryz.prog) w3 w.heap.size 0 ty (fs.map Fld.val) d kr2.range hu hrd (by rw [hsz]; simp [hlen])
 have e2 : A7.tmps[2]?.getD undef = .pointer (some ⟨w.heap.size, 0, none⟩) := by
  have := F7.get (by simp : (2, ptr w.heap.size) ∈ _)
  unfold Act.eval at this
  rw [← Array.getD_eq_getD_getElem?]
  exact this
 have e3 : A7.tmps[3]?.getD undef = .int .i64 er := by
  have := F7.get (by simp : (3, Value.int .i64 er) ∈ _)
  unfold Act.eval at this
  rw [← Array.getD_eq_getD_getElem?]
  exact this
 simp [results, hres, asAddr, e2, e3, hld]
end Go.Proofs.YtackcbpabjhmpaaGreat
