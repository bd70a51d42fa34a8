import Derived.Test.YtackcbpabjhmpaaGreatJN9
import Derived.Test.YtackcbpabjhmpaaGreatJP2
namespace Go.Proofs.YtackcbpabjhmpaaGreat
open Go.RowKit
set_option linter.unusedVariables false
set_option linter.unusedSimpArgs false
def WalkW (f : FuncId) (K : Kd) : Prop :=
 enters Tryz.prog f = true ∧ ∀ (base b xb : Nat) (t : TypeId) (fs : List Fld) (w : World), fitsAll K.sc fs → PassAt w base b [] → t ≠ 5 → xb ≠ b → Blk w xb (fs.map Fld.val).toArray t → goods base w fs → Calls Tryz.prog f #[ptr b, ptr xb] w fun e w' => e = .returned (.tuple #[]) ∧ PassAt w' base b (K.enc (pvAll fs)) ∧ Kp base b w w'
theorem Wtg.walkW {f : FuncId} {K : Kd} (h : Wtg f [] K.sc) (henc : ∀ vs, K.enc vs = encL (atomsAll K.sc vs)) (hwt : wtAll K.sc ≤ 1099400000000) : WalkW f K :=
 ⟨h.1, fun base b xb t fs w hf hP ht hne k g => (h.2 base b xb 0 fs [] w hf (by
  have := encL_len (atomsAll K.sc (pvAll fs))
  have := wtAll_le _ _ hf
  unfold encF
  simp only [List.length_nil]
  omega) hP (k.safe ht hne) (CellsAt.of_blk k (by simp) g)).mono fun e w' ⟨h1, h2, h3⟩ => ⟨h1, by rw [henc]; simpa [encF] using h2, h3⟩⟩
theorem clo_p {f wf id0 : Nat} {fn : Func} {K : Kd} {tw tp : TypeId} {ts : Array TypeId} {a1 a2 a3 : Oper} {fb pv base b xb : Nat} {tf tq t : TypeId} {fs : List Fld} {w : World} (hW : WalkW wf K) (hf : Tryz.prog.funcs[f]? = some fn) (hb : fn.body = some (Code.region id0 #[a1, a2, a3] false)) (hN : fn.ntmps = 6) (hres : fn.results = #[])
  (h1 : Is a1 (some 3) (.load tw (.tmp 0))) (h2 : Is a2 (some 4) (.load tp (.tmp 1))) (h3 : Is a3 (some 5) (.call { callee := .value (.tmp 3), args := #[.tmp 4, .tmp 2], argTypes := ts }))
  (hw : cellT Tryz.prog tw = true) (hp : cellT Tryz.prog tp = true) (kf : Blk w fb #[.func (.func wf) #[] #[]] tf) (kp : Blk w pv #[ptr b] tq) (hfit : fitsAll K.sc fs) (hP : PassAt w base b []) (ht : t ≠ 5) (hne : xb ≠ b) (kx : Blk w xb (fs.map Fld.val).toArray t) (hg : goods base w fs) :
  Calls Tryz.prog f #[ptr fb, ptr pv, ptr xb] w fun e w1 => e = .returned (.tuple #[]) ∧ PassAt w1 base b (K.enc (pvAll fs)) ∧ Kp base b w w1 := by
 have c0 : w.cell? ⟨fb, 0, none⟩ = some (.func (.func wf) #[] #[]) := (kf.cell 0).trans rfl
 have c1 : w.cell? ⟨pv, 0, none⟩ = some (ptr b) := (kp.cell 0).trans rfl
 obtain ⟨d1, hu1, hr1⟩ := cellT_out hw
 obtain ⟨d2, hu2, hr2⟩ := cellT_out hp
 refine calls_of_wp hf hb ?_
 have F := fr_three (x := ptr fb) (y := ptr pv) (z := ptr xb) hN (by omega)
 generalize ({ tmps := #[ptr fb, ptr pv, ptr xb] ++ Array.replicate (fn.ntmps - (#[ptr fb, ptr pv, ptr xb] : Array Value).size) undef, defers := [] } : Act) = A at F ⊢
 refine wp_region_list ?_
 show wpList _ _ _ [a1, a2, a3] _ _
 refine ol_cell h1.2.2 h1.2.1 (F.get (by simp : (0, ptr fb) ∈ _)) c0 hu1 hr1 ?_
 rw [h1.1]
 have F1 := F.set (i := 3) (v := .func (.func wf) #[] #[]) (by omega) rfl
 refine ol_cell h2.2.2 h2.2.1 (F1.get (by simp : (1, ptr pv) ∈ _)) c1 hu2 hr2 ?_
 rw [h2.1]
 have F2 := F1.set (i := 4) (v := ptr b) (by omega) rfl
 refine ol_callv h3.2.2 hW.1 h3.2.1 (F2.get (by simp : (3, Value.func (.func wf) #[] #[]) ∈ _)) (vs := #[ptr b, ptr xb]) (by rw [List.map_toArray]; simp only [List.map_cons, List.map_nil]; rw [F2.get (by simp : (4, ptr b) ∈ _), F2.get (by simp : (2, ptr xb) ∈ _)]) (hW.2 base b xb t fs w hfit hP ht hne kx hg) ?_
 rintro e w1 ⟨rfl, e2, e3⟩
 refine .inl ⟨_, rfl, ?_⟩
 rw [h3.1]
 have F3 := F2.put (v := .tuple #[]) (is := [5]) (i := 5) rfl (by simp)
 exact wpList_nil (ret_plain hres F3.2.1 ⟨rfl, e2, e3⟩)
structure PutOps (ty tw tpp : TypeId) (clo : Nat) (a1 a2 a3 a4 b1 b2 b3 b4 d1 d2 d3 e1 e2 e3 e4 e5 e6 e7 e8 f1 g1 g2 h1 h2 h3 k1 k2 k3 k4 k5 k6 k7 : Oper) (ts ts' : Array TypeId) : Prop where
 a1 : Is a1 (some 3) (.box ty (.tmp 0))
 a2 : Is a2 (some 4) (.box tw (.tmp 1))
 a3 : Is a3 (some 6) (.assign (.const (str [])))
 a4 : Is a4 (some 7) (.assign (.const (.int .i64 0)))
 b1 : Is b1 (some 10) (.build 185 #[])
 b2 : Is b2 (some 11) (.box 185 (.tmp 10))
 b3 : Is b3 (some 8) (.alloc tpp)
 b4 : Is b4 none (.store tpp (.tmp 8) (.tmp 11))
 d1 : Is d1 (some 12) (.makeFunc (.func clo) #[] #[.tmp 4, .tmp 8, .tmp 3])
 d2 : Is d2 (some 13) (.call { callee := .value (.func 117), args := #[.tmp 12], argTypes := ts })
 d3 : Is d3 (some 9) (.assign (.tmp 13))
 e1 : Is e1 (some 14) (.move (.tmp 9))
 e2 : Is e2 (some 15) (.binOp .eql 22 (.tmp 14) (.const (.int .i64 0)) 22)
 e3 : Is e3 (some 16) (.move (.tmp 15))
 e4 : e4.dst = some 17 ∧ e4.op = .move (.tmp 2) ∧ e4.guard = some (2, true)
 e5 : e5.dst = some 18 ∧ e5.op = .load ty (.tmp 3) ∧ e5.guard = some (2, true)
 e6 : e6.dst = some 19 ∧ e6.op = .call { callee := .value (.tmp 17), args := #[.tmp 18], argTypes := ts' } ∧ e6.guard = some (2, true)
 e7 : e7.dst = some 20 ∧ e7.op = .unOp .not 4 (.tmp 19) ∧ e7.guard = some (2, true)
 e8 : Is e8 (some 21) (.pick (.tmp 16) (.tmp 20) (.const (.bool false)))
 f1 : Is f1 (some 9) (.assign (.const (.int .i64 2)))
 g1 : Is g1 (some 22) (.move (.tmp 9))
 g2 : Is g2 (some 23) (.binOp .neq 22 (.tmp 22) (.const (.int .i64 0)) 22)
 h1 : Is h1 (some 24) (.move (.tmp 9))
 h2 : Is h2 (some 6) (.assign (.const (str [])))
 h3 : Is h3 (some 7) (.assign (.tmp 24))
 k1 : Is k1 (some 25) (.load tpp (.tmp 8))
 k2 : Is k2 (some 26) (.nilCheck (.tmp 25))
 k3 : Is k3 (some 27) (.fieldAddr 185 (.tmp 26) 1)
 k4 : Is k4 (some 28) (.load 183 (.tmp 27))
 k5 : Is k5 (some 29) (.convert 183 9 (.tmp 28))
 k6 : Is k6 (some 6) (.assign (.tmp 29))
 k7 : Is k7 (some 7) (.assign (.const (.int .i64 0)))
def LoadOk (K : Kd) (ty : TypeId) : Prop := ∀ (fs : List Fld) (w : World) (b : Nat), fs.length = K.sc.length → Blk w b (fs.map Fld.val).toArray ty → (Instr.loadAt ty (ptr b)).run Tryz.prog w = .ok (K.wrap (fs.map Fld.val).toArray) w
theorem load_agg {K : Kd} {ty : TypeId} (hwr : K.wrap = .agg) (hrt : rowT Tryz.prog ty = true) (hsz : (Tryz.prog.info? ty).map (·.size) = some K.sc.length) : LoadOk K ty := fun fs w b hl k => by
 obtain ⟨d, hu, hrd⟩ := rowT_out hrt
 rw [hwr]
 exact run_loadAt_mid (P := Tryz.prog) w b 0 ty (fs.map Fld.val) d k.range hu hrd (by rw [hsz]; simp [hl])
theorem load_one {K : Kd} {ty : TypeId} (hwr : K.wrap = hdv) (hct : cellT Tryz.prog ty = true) (hsz : K.sc.length = 1) : LoadOk K ty := fun fs w b hl k => by
 obtain ⟨d, hu, hrd⟩ := cellT_out hct
 rw [hsz] at hl
 match fs, hl with
 | [f], _ =>
  rw [hwr]
  have hc : w.cell? ⟨b, 0, none⟩ = some f.val := (k.cell 0).trans rfl
  have hagg : (isAgg ty).run Tryz.prog w = .ok false w := by
   unfold isAgg
   rw [Sem.run_bind, run_underlying hu w]
   cases d <;> simp_all [TypeDesc.isRow]
  simp [ptr, Instr.loadAt, Instr.sureAddr, loadVar, hagg, hc, hdv]
abbrev PutQ (K : Kd) (fs : List Fld) (w : World) (e : Ending) (w' : World) : Prop := ∃ out er, e = .returned (.tuple #[str out, .int .i64 er]) ∧ Below w.heap.size w w' ∧ PutP K (pvAll fs) out er
theorem results_two {fn : Func} {A : Act} {i j : Nat} {x y : Value} (hr : fn.results = #[.tmp i, .tmp j]) (hx : A.eval (.tmp i) = x) (hy : A.eval (.tmp j) = y) (w : World) : (results fn A.tmps).run Tryz.prog w = .ok (.tuple #[x, y]) w := by
 have e1 : A.tmps[i]?.getD undef = x := by
  have := hx
  unfold Act.eval at this
  rw [← Array.getD_eq_getD_getElem?]
  exact this
 have e2 : A.tmps[j]?.getD undef = y := by
  have := hy
  unfold Act.eval at this
  rw [← Array.getD_eq_getD_getElem?]
  exact this
 simp [results, hr, e1, e2]
theorem put_p {f wf mf clo i0 i1 i2 i3 i4 i5 i6 i7 id0 : Nat} {fn fc : Func} {K : Kd} {ty tw tpp tp : TypeId} {ts ts' tc : Array TypeId} {a1 a2 a3 a4 b1 b2 b3 b4 d1 d2 d3 e1 e2 e3 e4 e5 e6 e7 e8 f1 g1 g2 h1 h2 h3 k1 k2 k3 k4 k5 k6 k7 x1 x2 x3 : Oper}
  (hW : WalkW wf K) (hM : MayX mf K) (hld : LoadOk K ty) (hwc : ∀ fs : List Fld, fs.length = K.sc.length → (K.wrap (fs.map Fld.val).toArray).cells = (fs.map Fld.val).toArray) (hty : ty ≠ 5 ∧ tpp ≠ 5) (hf : Tryz.prog.funcs[f]? = some fn) (hN : fn.ntmps = 30) (hres : fn.results = #[.tmp 6, .tmp 7])
  (hb : fn.body = some (Code.seq (.region i0 #[a1, a2, a3, a4] false) (.seq (.region i1 #[b1, b2, b3, b4] false) (.seq (.region i2 #[d1, d2, d3] false) (.seq (.seq (.region i3 #[e1, e2, e3, e4, e5, e6, e7, e8] false) (.cond (.tmp 21) (.region i4 #[f1] false) .skip)) (.seq (.seq (.region i5 #[g1, g2] false) (.cond (.tmp 23) (.seq (.region i6 #[h1, h2, h3] false) .ret) .skip)) (.seq (.region i7 #[k1, k2, k3, k4, k5, k6, k7] false) .ret)))))))
  (O : PutOps ty tw tpp clo a1 a2 a3 a4 b1 b2 b3 b4 d1 d2 d3 e1 e2 e3 e4 e5 e6 e7 e8 f1 g1 g2 h1 h2 h3 k1 k2 k3 k4 k5 k6 k7 ts ts') (hzp : (Tryz.prog.info? tpp).map (fun i => (i.zero, i.size)) = some (some (.pointer none), 1)) (htp : cellT Tryz.prog tpp = true)
  (cE : enters Tryz.prog clo = true) (cf : Tryz.prog.funcs[clo]? = some fc) (cb : fc.body = some (Code.region id0 #[x1, x2, x3] false)) (cN : fc.ntmps = 6) (cres : fc.results = #[])
  (q1 : Is x1 (some 3) (.load tw (.tmp 0))) (q2 : Is x2 (some 4) (.load tp (.tmp 1))) (q3 : Is x3 (some 5) (.call { callee := .value (.tmp 3), args := #[.tmp 4, .tmp 2], argTypes := tc })) (hw : cellT Tryz.prog tw = true) (hp : cellT Tryz.prog tp = true)
  (lo : Nat) (fs : List Fld) (w : World) (hfit : fitsAll K.sc fs) (hl : lieAll lo w fs) :
  Calls Tryz.prog f #[K.wrap (fs.map Fld.val).toArray, .func (.func wf) #[] #[], .func (.func mf) #[] #[]] w (PutQ K fs w) := by
 have hlen := fits_len hfit
 have hwv := hwc fs hlen
 refine calls_of_wp hf hb ?_
 have hmx := fun w' (h : Below w.heap.size w w') => hM.2 lo fs w' hfit (hl.hi (Hi.of_below h))
 have hl2 := fun (w' : World) (b : Nat) (k : Blk w' b (fs.map Fld.val).toArray ty) => hld fs w' b hlen k
 have hgd := hl.goods
 generalize K.wrap (fs.map Fld.val).toArray = V at hwv hmx hl2 ⊢
 have F := fr_three (x := V) (y := .func (.func wf) #[] #[]) (z := .func (.func mf) #[] #[]) hN (by omega)
 generalize ({ tmps := #[V, .func (.func wf) #[] #[], .func (.func mf) #[] #[]] ++ Array.replicate (fn.ntmps - (#[V, .func (.func wf) #[] #[], .func (.func mf) #[] #[]] : Array Value).size) undef, defers := [] } : Act) = A at F ⊢
 refine wp_seq (wp_region_list ?_)
 show wpList _ _ _ [a1, a2, a3, a4] _ _
 refine ol_box O.a1.2.2 O.a1.2.1 (F.get (by simp : (0, V) ∈ _)) ?_
 rw [O.a1.1, hwv]
 have F1 := F.set (i := 3) (v := ptr w.heap.size) (by omega) rfl
 have kx := Blk.new w (fs.map Fld.val).toArray ty
 have bw := (Below.refl w.heap.size w).alloc (Nat.le_refl _) (.cells (fs.map Fld.val).toArray ty)
 have z1 : (w.alloc (.cells (fs.map Fld.val).toArray ty)).heap.size = w.heap.size + 1 := World.size_alloc _ _
 show wpList _ _ _ _ (A.put (some 3) (ptr w.heap.size)) (w.alloc (.cells (fs.map Fld.val).toArray ty))
 generalize A.put (some 3) (ptr w.heap.size) = A1 at *
 generalize w.alloc (.cells (fs.map Fld.val).toArray ty) = w1 at *
 refine ol_box O.a2.2.2 O.a2.2.1 (F1.get (by simp : (1, Value.func (.func wf) #[] #[]) ∈ _)) ?_
 rw [O.a2.1]
 have F2 := F1.set (i := 4) (v := ptr w1.heap.size) (by omega) rfl
 have kf := Blk.new w1 #[.func (.func wf) #[] #[]] tw
 have kx := kx.alloc (.cells #[.func (.func wf) #[] #[]] tw)
 have bw := bw.alloc bw.size (.cells #[.func (.func wf) #[] #[]] tw)
 have z2 : (w1.alloc (.cells #[.func (.func wf) #[] #[]] tw)).heap.size = w1.heap.size + 1 := World.size_alloc _ _
 show wpList _ _ _ _ (A1.put (some 4) (ptr w1.heap.size)) (w1.alloc (.cells #[.func (.func wf) #[] #[]] tw))
 generalize A1.put (some 4) (ptr w1.heap.size) = A2 at *
 generalize w1.alloc (.cells #[.func (.func wf) #[] #[]] tw) = w2 at *
 refine ol_move O.a3.2.2 (.inr O.a3.2.1) ?_
 rw [O.a3.1]
 have F3 := F2.put (v := str []) (is := [6]) (i := 6) rfl (by simp)
 show wpList _ _ _ _ (A2.put (some 6) (str [])) _
 generalize A2.put (some 6) (str []) = A3 at *
 refine ol_move O.a4.2.2 (.inr O.a4.2.1) ?_
 rw [O.a4.1]
 have F4 := F3.put (v := .int .i64 0) (is := [7]) (i := 7) rfl (by simp)
 show wpList _ _ _ _ (A3.put (some 7) (.int .i64 0)) _
 generalize A3.put (some 7) (.int .i64 0) = A4 at *
 refine wpList_nil ?_
 show Code.wp _ _ _ _ _
 refine wp_seq (wp_region_list ?_)
 show wpList _ _ _ [b1, b2, b3, b4] _ _
 refine ol_build O.b1.2.2 O.b1.2.1 (Z := #[.bool false, .slice none 0 0, .string ⟨#[]⟩]) (by kernel_rfl) ?_
 rw [O.b1.1]
 have F5 := F4.set (i := 10) (v := .agg #[.bool false, .slice none 0 0, .string ⟨#[]⟩]) (by omega) rfl
 generalize A4.put (some 10) (.agg #[.bool false, .slice none 0 0, .string ⟨#[]⟩]) = A5 at *
 refine ol_box O.b2.2.2 O.b2.2.1 (F5.get (by simp : (10, Value.agg #[.bool false, .slice none 0 0, .string ⟨#[]⟩]) ∈ _)) ?_
 rw [O.b2.1]
 have F6 := F5.set (i := 11) (v := ptr w2.heap.size) (by omega) rfl
 have kp := Blk.new w2 #[.bool false, .slice none 0 0, .string ⟨#[]⟩] 185
 have kf := kf.alloc (.cells #[.bool false, .slice none 0 0, .string ⟨#[]⟩] 185)
 have kx := kx.alloc (.cells #[.bool false, .slice none 0 0, .string ⟨#[]⟩] 185)
 have bw := bw.alloc bw.size (.cells #[.bool false, .slice none 0 0, .string ⟨#[]⟩] 185)
 have z3 : (w2.alloc (.cells #[.bool false, .slice none 0 0, .string ⟨#[]⟩] 185)).heap.size = w2.heap.size + 1 := World.size_alloc _ _
 show wpList _ _ _ _ (A5.put (some 11) (ptr w2.heap.size)) (w2.alloc (.cells #[.bool false, .slice none 0 0, .string ⟨#[]⟩] 185))
 generalize A5.put (some 11) (ptr w2.heap.size) = A6 at *
 generalize w2.alloc (.cells #[.bool false, .slice none 0 0, .string ⟨#[]⟩] 185) = w3 at *
 refine ol_alloc O.b3.2.2 O.b3.2.1 hzp ?_
 rw [O.b3.1]
 have F7 := F6.set (i := 8) (v := ptr w3.heap.size) (by omega) rfl
 have kv := Blk.new w3 #[.pointer none] tpp
 have kf := kf.alloc (.cells #[.pointer none] tpp)
 have kx := kx.alloc (.cells #[.pointer none] tpp)
 have kp := kp.alloc (.cells #[.pointer none] tpp)
 have bw := bw.alloc bw.size (.cells #[.pointer none] tpp)
 have z4 : (w3.alloc (.cells #[.pointer none] tpp)).heap.size = w3.heap.size + 1 := World.size_alloc _ _
 show wpList _ _ _ _ (A6.put (some 8) (ptr w3.heap.size)) (w3.alloc (.cells #[.pointer none] tpp))
 generalize A6.put (some 8) (ptr w3.heap.size) = A7 at *
 generalize w3.alloc (.cells #[.pointer none] tpp) = w4 at *
 refine ol_store O.b4.2.2 O.b4.1 O.b4.2.1 (F7.get (by simp : (8, ptr w3.heap.size) ∈ _)) (F7.get (by simp : (11, ptr w2.heap.size) ∈ _)) (kv.thereAt 0 _ (by show 0 + 1 ≤ 1; omega)) (by
  cases hq : Tryz.prog.info? tpp with
  | none => rw [hq] at hzp; cases hzp
  | some i => rw [hq] at hzp; simp at hzp ⊢; exact hzp.2) (fun u hu => by rw [List.mem_singleton.1 (show u ∈ [ptr w2.heap.size] from hu)]; rfl) ?_
 have bs : But (fun k => k = w3.heap.size) w4 (w4.setCells w3.heap.size 0 [ptr w2.heap.size]) := but_cells _ _ _ _
 have kv : Blk (w4.setCells w3.heap.size 0 [ptr w2.heap.size]) w3.heap.size #[ptr w2.heap.size] tpp := kv.putCells [ptr w2.heap.size] 0 _ _
 have kf := bs.blk kf (by omega)
 have kx := bs.blk kx (by omega)
 have kp := bs.blk kp (by omega)
 have bw := bw.trans (bs.below (B := w.heap.size) bw.size (fun k q => by omega))
 have z5 := bs.size
 show wpList _ _ _ _ _ (w4.setCells w3.heap.size 0 [ptr w2.heap.size])
 generalize w4.setCells w3.heap.size 0 [ptr w2.heap.size] = w5 at *
 clear bs
 refine wpList_nil ?_
 show Code.wp _ _ _ _ _
 have bE : Below w5.heap.size w5 (w5.alloc (.cells #[.int .i64 0] 22)) := (Below.refl _ _).alloc (Nat.le_refl _) _
 have kE := Blk.new w5 #[.int .i64 0] 22
 have hP : PassAt w5 w.heap.size w2.heap.size [] := ⟨.slice none 0 0, kp, World.ownsRow_nil _ _ _ _, by omega⟩
 have bwE : Below w.heap.size w (w5.alloc (.cells #[.int .i64 0] 22)) := bw.trans (bE.mono bw.size)
 have kxE := kx.alloc (.cells #[.int .i64 0] 22)
 have kvE := kv.alloc (.cells #[.int .i64 0] 22)
 have hclo := clo_p (fb := w1.heap.size) (pv := w3.heap.size) (base := w.heap.size) (b := w2.heap.size) (xb := w.heap.size) (w := w5.alloc (.cells #[.int .i64 0] 22)) hW cf cb cN cres q1 q2 q3 hw hp (kf.alloc _) kvE hfit (hP.below bE) hty.1 (by omega) kxE (hgd.below bwE)
 have hatt := attempt_x clo cE #[ptr w1.heap.size, ptr w3.heap.size, ptr w.heap.size] w5 (fun er w1 => er = 0 ∧ PassAt w1 w.heap.size w2.heap.size (K.enc (pvAll fs)) ∧ Kp w.heap.size w2.heap.size (w5.alloc (.cells #[.int .i64 0] 22)) w1) (hclo.mono fun e w1 ⟨r1, r2, r3⟩ => ⟨.inl ⟨r1, rfl, r2, r3⟩, by
  have q := kE.kp r3 (by omega)
  exact ⟨(q.cell 0).trans rfl, q.frozen 0⟩⟩)
 clear hclo
 refine wp_seq (wp_region_list ?_)
 show wpList _ _ _ [d1, d2, d3] _ _
 refine ol_val (w' := w5) (v := .func (.func clo) #[] #[ptr w1.heap.size, ptr w3.heap.size, ptr w.heap.size]) O.d1.2.2 (by
  unfold execOp
  rw [O.d1.2.1]
  simp only [List.map_toArray, List.map_cons, List.map_nil, F7.get (by simp : (4, ptr w1.heap.size) ∈ _), F7.get (by simp : (8, ptr w3.heap.size) ∈ _), F7.get (by simp : (3, ptr w.heap.size) ∈ _)]
  rfl) ?_
 rw [O.d1.1]
 have F8 := F7.set (i := 12) (v := .func (.func clo) #[] #[ptr w1.heap.size, ptr w3.heap.size, ptr w.heap.size]) (by omega) rfl
 generalize A7.put (some 12) (.func (.func clo) #[] #[ptr w1.heap.size, ptr w3.heap.size, ptr w.heap.size]) = A8 at *
 refine ol_call O.d2.2.2 (by kernel_rfl) O.d2.2.1 (vs := #[.func (.func clo) #[] #[ptr w1.heap.size, ptr w3.heap.size, ptr w.heap.size]]) (by rw [List.map_toArray]; simp only [List.map_cons, List.map_nil]; rw [F8.get (by simp : (12, Value.func (.func clo) #[] #[ptr w1.heap.size, ptr w3.heap.size, ptr w.heap.size]) ∈ _)]) hatt ?_
 rintro e w9 ⟨er, w8, ⟨rfl, P8, K8⟩, rfl, rfl⟩
 refine ⟨_, rfl, ?_⟩
 rw [O.d2.1]
 have F9 := F8.set (i := 13) (v := .int .i64 0) (by omega) rfl
 generalize A8.put (some 13) (.int .i64 0) = A9 at *
 refine ol_move O.d3.2.2 (.inr O.d3.2.1) ?_
 rw [O.d3.1, F9.get (by simp : (13, Value.int .i64 0) ∈ _)]
 have F10 := F9.set (i := 9) (v := .int .i64 0) (by omega) rfl
 generalize A9.put (some 9) (.int .i64 0) = A10 at *
 refine wpList_nil ?_
 show Code.wp _ _ _ _ _
 have kE8 := kE.kp K8 (by omega)
 have P9 : PassAt (w8.setCell ⟨w5.heap.size, 0, none⟩ (.int .i64 0)) w.heap.size w2.heap.size (K.enc (pvAll fs)) := P8.setOther kE8 (by decide) (by omega) 0 _
 have kx9 : Blk (w8.setCell ⟨w5.heap.size, 0, none⟩ (.int .i64 0)) w.heap.size (fs.map Fld.val).toArray ty := (kxE.kp K8 (by omega) hty.1).setOther ⟨w5.heap.size, 0, none⟩ (by show w.heap.size ≠ w5.heap.size; omega) _
 have kv9 : Blk (w8.setCell ⟨w5.heap.size, 0, none⟩ (.int .i64 0)) w3.heap.size #[ptr w2.heap.size] tpp := (kvE.kp K8 (by omega) hty.2).setOther ⟨w5.heap.size, 0, none⟩ (by show w3.heap.size ≠ w5.heap.size; omega) _
 have bw9 : Below w.heap.size w (w8.setCell ⟨w5.heap.size, 0, none⟩ (.int .i64 0)) := (bwE.trans K8.below).setCell (p := ⟨w5.heap.size, 0, none⟩) (by show w.heap.size ≤ w5.heap.size; omega) _
 have F11 : Fr 30 [(9, .int .i64 0), (8, ptr w3.heap.size), (3, ptr w.heap.size), (2, .func (.func mf) #[] #[])] A10 := F10.sub (by intro p hp; simp at hp ⊢; rcases hp with h | h | h | h <;> simp [h])
 clear F F1 F2 F3 F4 F5 F6 F7 F8 F9 F10 hatt kf kx kp kv kE kE8 P8 K8 kxE kvE bwE bE hP bw
 generalize w8.setCell ⟨w5.heap.size, 0, none⟩ (.int .i64 0) = w9 at *
 refine wp_seq (wp_seq (wp_region_list ?_))
 show wpList _ _ _ [e1, e2, e3, e4, e5, e6, e7, e8] _ _
 refine ol_move O.e1.2.2 (.inl O.e1.2.1) ?_
 rw [O.e1.1, F11.get (by simp : (9, Value.int .i64 0) ∈ _)]
 have F1 := F11.set (i := 14) (v := .int .i64 0) (by omega) rfl
 generalize A10.put (some 14) (.int .i64 0) = A1 at *
 refine ol_val O.e2.2.2 (run_eql O.e2.2.1 (F1.get (by simp : (14, Value.int .i64 0) ∈ _)) rfl) ?_
 rw [O.e2.1]
 have F2 := F1.tl.set (i := 15) (v := .bool ((0 : Int) == 0)) (by omega) rfl
 generalize A1.put (some 15) (.bool ((0 : Int) == 0)) = A2 at *
 refine ol_move O.e3.2.2 (.inl O.e3.2.1) ?_
 rw [O.e3.1, F2.get (by simp : (15, Value.bool ((0 : Int) == 0)) ∈ _)]
 have F3 := F2.tl.set (i := 16) (v := .bool ((0 : Int) == 0)) (by omega) rfl
 generalize A2.put (some 16) (.bool ((0 : Int) == 0)) = A3 at *
 have hdst : ((#[e1, e2, e3, e4, e5, e6, e7, e8] : Array Oper)[2]?).bind (·.dst) = some 16 := O.e3.1
 generalize (#[e1, e2, e3, e4, e5, e6, e7, e8] : Array Oper) = ops at *
 refine ol_on O.e4.2.2 hdst (by rw [F3.1]; omega) (F3.get (by simp : (16, Value.bool ((0 : Int) == 0)) ∈ _)) (w' := w9) (v := .func (.func mf) #[] #[]) (by unfold execOp; rw [O.e4.2.1]; simp only [F3.get (by simp : (2, Value.func (.func mf) #[] #[]) ∈ _)]; rfl) ?_
 rw [O.e4.1]
 have F4 := F3.set (i := 17) (v := .func (.func mf) #[] #[]) (by omega) rfl
 generalize A3.put (some 17) (.func (.func mf) #[] #[]) = A4 at *
 refine ol_on O.e5.2.2 hdst (by rw [F4.1]; omega) (F4.get (by simp : (16, Value.bool ((0 : Int) == 0)) ∈ _)) (w' := w9) (v := V) (by
  unfold execOp
  rw [O.e5.2.1]
  simp only [F4.get (by simp : (3, ptr w.heap.size) ∈ _)]
  rw [Sem.run_bind, hl2 w9 _ kx9]
  rfl) ?_
 rw [O.e5.1]
 have F5 := F4.set (i := 18) (v := V) (by omega) rfl
 generalize A4.put (some 18) V = A5 at *
 refine ol_callv_on O.e6.2.2 hdst (by rw [F5.1]; omega) (F5.get (by simp : (16, Value.bool ((0 : Int) == 0)) ∈ _)) hM.1 O.e6.2.1 (F5.get (by simp : (17, Value.func (.func mf) #[] #[]) ∈ _)) (vs := #[V]) (by rw [List.map_toArray]; simp only [List.map_cons, List.map_nil]; rw [F5.get (by simp : (18, V) ∈ _)]) (hmx w9 bw9) ?_
 rintro e w10 ⟨b, rfl, hbm, bM⟩
 refine ⟨_, rfl, ?_⟩
 rw [O.e6.1]
 have F6 := F5.set (i := 19) (v := .bool b) (by omega) rfl
 generalize A5.put (some 19) (.bool b) = A6 at *
 refine ol_on O.e7.2.2 hdst (by rw [F6.1]; omega) (F6.get (by simp : (16, Value.bool ((0 : Int) == 0)) ∈ _)) (w' := w10) (v := .bool (!b)) (by unfold execOp; rw [O.e7.2.1]; simp only [F6.get (by simp : (19, Value.bool b) ∈ _)]; rfl) ?_
 rw [O.e7.1]
 have F7 := F6.set (i := 20) (v := .bool (!b)) (by omega) rfl
 generalize A6.put (some 20) (.bool (!b)) = A7 at *
 refine ol_val O.e8.2.2 (w' := w10) (v := .bool (!b)) (by unfold execOp; rw [O.e8.2.1]; simp [F7.get (by simp : (16, Value.bool ((0 : Int) == 0)) ∈ _), F7.get (by simp : (20, Value.bool (!b)) ∈ _), asBool]) ?_
 rw [O.e8.1]
 have F8 := F7.set (i := 21) (v := .bool (!b)) (by omega) rfl
 generalize A7.put (some 21) (.bool (!b)) = A8 at *
 have F9 : Fr 30 [(21, .bool (!b)), (9, .int .i64 0), (8, ptr w3.heap.size)] A8 := F8.sub (by intro p hp; simp at hp ⊢; rcases hp with h | h | h <;> simp [h])
 refine wpList_nil ?_
 show Code.wp _ _ _ _ _
 have bw10 := bw9.trans (bM.mono bw9.size)
 have P10 := P9.below bM
 have kv10 := kv9.below bM kv9.lt
 clear F11 F1 F2 F3 F4 F5 F6 F7 F8 hl2 hmx
 cases b with
 | true =>
  refine wp_cond_false (F9.get (by simp : (21, Value.bool (!true)) ∈ _)) (wp_skip ?_)
  show Code.wp _ _ _ _ _
  refine wp_seq (wp_seq (wp_region_list ?_))
  show wpList _ _ _ [g1, g2] _ _
  refine ol_move O.g1.2.2 (.inl O.g1.2.1) ?_
  rw [O.g1.1, F9.get (by simp : (9, Value.int .i64 0) ∈ _)]
  have F1 := F9.set (i := 22) (v := .int .i64 0) (by omega) rfl
  generalize A8.put (some 22) (.int .i64 0) = B1 at *
  refine ol_val O.g2.2.2 (run_neq O.g2.2.1 (F1.get (by simp : (22, Value.int .i64 0) ∈ _)) rfl) ?_
  rw [O.g2.1]
  have F2 := F1.set (i := 23) (v := .bool ((0 : Int) != 0)) (by omega) rfl
  generalize B1.put (some 23) (.bool ((0 : Int) != 0)) = B2 at *
  refine wpList_nil ?_
  show Code.wp _ _ _ _ _
  refine wp_cond_false (F2.get (by simp : (23, Value.bool ((0 : Int) != 0)) ∈ _)) (wp_skip ?_)
  show Code.wp _ _ _ _ _
  refine wp_seq (wp_region_list ?_)
  show wpList _ _ _ [k1, k2, k3, k4, k5, k6, k7] _ _
  obtain ⟨d, hu, hr⟩ := cellT_out htp
  obtain ⟨d', hu', hr'⟩ := cellT_out (show cellT Tryz.prog 183 = true by kernel_rfl)
  obtain ⟨u, h1', h2', h3'⟩ := P10
  have cu : w10.cell? ⟨w2.heap.size, 1, none⟩ = some u := (h1'.cell 1).trans rfl
  refine ol_cell O.k1.2.2 O.k1.2.1 (F2.get (by simp : (8, ptr w3.heap.size) ∈ _)) ((kv10.cell 0).trans rfl) hu hr ?_
  rw [O.k1.1]
  have G1 := F2.set (i := 25) (v := ptr w2.heap.size) (by omega) rfl
  show wpList _ _ _ _ (B2.put (some 25) (ptr w2.heap.size)) _
  generalize B2.put (some 25) (ptr w2.heap.size) = B3 at *
  refine ol_nil O.k2.2.2 O.k2.2.1 (G1.get (by simp : (25, ptr w2.heap.size) ∈ _)) ?_
  rw [O.k2.1]
  have G2 := G1.set (i := 26) (v := ptr w2.heap.size) (by omega) rfl
  show wpList _ _ _ _ (B3.put (some 26) (ptr w2.heap.size)) _
  generalize B3.put (some 26) (ptr w2.heap.size) = B4 at *
  refine ol_fld O.k3.2.2 O.k3.2.1 (G2.get (by simp : (26, ptr w2.heap.size) ∈ _)) (n := 1) (by kernel_rfl) ?_
  rw [O.k3.1]
  have G3 := G2.set (i := 27) (v := .pointer (some ⟨w2.heap.size, 1, none⟩)) (by omega) rfl
  generalize B4.put (some 27) (.pointer (some ⟨w2.heap.size, 1, none⟩)) = B5 at *
  refine ol_cell O.k4.2.2 O.k4.2.1 (G3.get (by simp : (27, Value.pointer (some ⟨w2.heap.size, 1, none⟩)) ∈ _)) cu hu' hr' ?_
  rw [O.k4.1]
  have G4 := G3.set (i := 28) (v := u) (by omega) rfl
  generalize B5.put (some 28) u = B6 at *
  refine ol_val (w' := w10) (v := str (K.enc (pvAll fs))) O.k5.2.2 (by
   unfold execOp
   rw [O.k5.2.1]
   simp only [G4.get (by simp : (28, u) ∈ _)]
   rw [Sem.run_bind, conv_own h2']
   rfl) ?_
  rw [O.k5.1]
  have G5 := G4.set (i := 29) (v := str (K.enc (pvAll fs))) (by omega) rfl
  generalize B6.put (some 29) (str (K.enc (pvAll fs))) = B7 at *
  refine ol_move O.k6.2.2 (.inr O.k6.2.1) ?_
  rw [O.k6.1, G5.get (by simp : (29, str (K.enc (pvAll fs))) ∈ _)]
  have G6 := G5.set (i := 6) (v := str (K.enc (pvAll fs))) (by omega) rfl
  generalize B7.put (some 6) (str (K.enc (pvAll fs))) = B8 at *
  refine ol_move O.k7.2.2 (.inr O.k7.2.1) ?_
  rw [O.k7.1]
  have G7 := G6.set (i := 7) (v := .int .i64 0) (by omega) rfl
  show wpList _ _ _ _ (B8.put (some 7) (.int .i64 0)) _
  generalize B8.put (some 7) (.int .i64 0) = B9 at *
  refine wpList_nil ?_
  show Code.wp _ _ _ _ _
  refine wp_ret (bodyPost_ret (results_two hres (G7.get (by simp : (6, str (K.enc (pvAll fs))) ∈ _)) (G7.get (by simp : (7, Value.int .i64 0) ∈ _)) _) G7.2.1 ⟨K.enc (pvAll fs), 0, rfl, bw10, .inl ⟨hbm.1 rfl, rfl, rfl⟩⟩)
 | false =>
  refine wp_cond_true (F9.get (by simp : (21, Value.bool (!false)) ∈ _)) (wp_region_list ?_)
  show wpList _ _ _ [f1] _ _
  refine ol_move O.f1.2.2 (.inr O.f1.2.1) ?_
  rw [O.f1.1]
  have F0 := F9.tl.tl.set (i := 9) (v := .int .i64 2) (by omega) rfl
  show wpList _ _ _ _ (A8.put (some 9) (.int .i64 2)) _
  generalize A8.put (some 9) (.int .i64 2) = B0 at *
  refine wpList_nil ?_
  show Code.wp _ _ _ _ _
  refine wp_seq (wp_seq (wp_region_list ?_))
  show wpList _ _ _ [g1, g2] _ _
  refine ol_move O.g1.2.2 (.inl O.g1.2.1) ?_
  rw [O.g1.1, F0.get (by simp : (9, Value.int .i64 2) ∈ _)]
  have F1 := F0.set (i := 22) (v := .int .i64 2) (by omega) rfl
  generalize B0.put (some 22) (.int .i64 2) = B1 at *
  refine ol_val O.g2.2.2 (run_neq O.g2.2.1 (F1.get (by simp : (22, Value.int .i64 2) ∈ _)) rfl) ?_
  rw [O.g2.1]
  have F2 := F1.set (i := 23) (v := .bool ((2 : Int) != 0)) (by omega) rfl
  generalize B1.put (some 23) (.bool ((2 : Int) != 0)) = B2 at *
  refine wpList_nil ?_
  show Code.wp _ _ _ _ _
  refine wp_cond_true (F2.get (by simp : (23, Value.bool ((2 : Int) != 0)) ∈ _)) (wp_seq (wp_region_list ?_))
  show wpList _ _ _ [h1, h2, h3] _ _
  refine ol_move O.h1.2.2 (.inl O.h1.2.1) ?_
  rw [O.h1.1, F2.get (by simp : (9, Value.int .i64 2) ∈ _)]
  have G1 := F2.set (i := 24) (v := .int .i64 2) (by omega) rfl
  generalize B2.put (some 24) (.int .i64 2) = B3 at *
  refine ol_move O.h2.2.2 (.inr O.h2.2.1) ?_
  rw [O.h2.1]
  have G2 := G1.set (i := 6) (v := str []) (by omega) rfl
  show wpList _ _ _ _ (B3.put (some 6) (str [])) _
  generalize B3.put (some 6) (str []) = B4 at *
  refine ol_move O.h3.2.2 (.inr O.h3.2.1) ?_
  rw [O.h3.1, G2.get (by simp : (24, Value.int .i64 2) ∈ _)]
  have G3 := G2.set (i := 7) (v := .int .i64 2) (by omega) rfl
  generalize B4.put (some 7) (.int .i64 2) = B5 at *
  refine wpList_nil ?_
  show Code.wp _ _ _ _ _
  exact wp_ret (bodyPost_ret (results_two hres (G3.get (by simp : (6, str []) ∈ _)) (G3.get (by simp : (7, Value.int .i64 2) ∈ _)) _) G3.2.1 ⟨[], 2, rfl, bw10, .inr ⟨fun q => (by have := hbm.2 q; cases this), rfl, rfl⟩⟩)
theorem face_p {f g wf mf id0 id1 : Nat} {fn : Func} {K : Kd} {ty : TypeId} {ts : Array TypeId} {a1 a2 a3 b1 b2 b3 b4 b5 b6 : Oper} (hG : ∀ lo fs w, fitsAll K.sc fs → lieAll lo w fs → Calls Tryz.prog g #[K.wrap (fs.map Fld.val).toArray, .func (.func wf) #[] #[], .func (.func mf) #[] #[]] w (PutQ K fs w)) (hld : LoadOk K ty) (hwc : ∀ fs : List Fld, fs.length = K.sc.length → (K.wrap (fs.map Fld.val).toArray).cells = (fs.map Fld.val).toArray) (gE : enters Tryz.prog g = true) (hE : enters Tryz.prog f = true) (hf : Tryz.prog.funcs[f]? = some fn) (hN : fn.ntmps = 8) (hres : fn.results = #[.tmp 2, .tmp 3])
  (hb : fn.body = some (Code.seq (.region id0 #[a1, a2, a3] false) (.seq (.region id1 #[b1, b2, b3, b4, b5, b6] false) .ret))) (h1 : Is a1 (some 1) (.box ty (.tmp 0))) (h2 : Is a2 (some 2) (.assign (.const (str [])))) (h3 : Is a3 (some 3) (.assign (.const (.int .i64 0)))) (h4 : Is b1 (some 4) (.load ty (.tmp 1))) (h5 : Is b2 (some 5) (.call { callee := .value (.func g), args := #[.tmp 4, .func wf, .func mf], argTypes := ts })) (h6 : Is b3 (some 6) (.extract (.tmp 5) 0)) (h7 : Is b4 (some 7) (.extract (.tmp 5) 1)) (h8 : Is b5 (some 2) (.assign (.tmp 6))) (h9 : Is b6 (some 3) (.assign (.tmp 7))) : PutC f K := by
 refine ⟨hE, fun lo fs w hfit hl => ?_⟩
 have hlen := fits_len hfit
 have hwv := hwc fs hlen
 have hl2 := fun (w' : World) (b : Nat) (k : Blk w' b (fs.map Fld.val).toArray ty) => hld fs w' b hlen k
 have hG2 := fun w' (h : Below w.heap.size w w') => hG lo fs w' hfit (hl.hi (Hi.of_below h))
 generalize K.wrap (fs.map Fld.val).toArray = V at hwv hG2 hl2 ⊢
 refine calls_of_wp hf hb ?_
 have F := fr_one (v := V) hN (by omega)
 generalize ({ tmps := #[V] ++ Array.replicate (fn.ntmps - (#[V] : Array Value).size) undef, defers := [] } : Act) = A at F ⊢
 refine wp_seq (wp_region_list ?_)
 show wpList _ _ _ [a1, a2, a3] _ _
 refine ol_box h1.2.2 h1.2.1 (F.get (by simp : (0, V) ∈ _)) ?_
 rw [h1.1, hwv]
 have F1 := F.set (i := 1) (v := ptr w.heap.size) (by omega) rfl
 have kx := Blk.new w (fs.map Fld.val).toArray ty
 have bw := (Below.refl w.heap.size w).alloc (Nat.le_refl _) (.cells (fs.map Fld.val).toArray ty)
 show wpList _ _ _ _ (A.put (some 1) (ptr w.heap.size)) (w.alloc (.cells (fs.map Fld.val).toArray ty))
 generalize A.put (some 1) (ptr w.heap.size) = A1 at *
 generalize w.alloc (.cells (fs.map Fld.val).toArray ty) = w1 at *
 refine ol_move h2.2.2 (.inr h2.2.1) ?_
 rw [h2.1]
 have F2 := F1.put (v := str []) (is := [2]) (i := 2) rfl (by simp)
 show wpList _ _ _ _ (A1.put (some 2) (str [])) _
 generalize A1.put (some 2) (str []) = A2 at *
 refine ol_move h3.2.2 (.inr h3.2.1) ?_
 rw [h3.1]
 have F3 := F2.put (v := .int .i64 0) (is := [3]) (i := 3) rfl (by simp)
 show wpList _ _ _ _ (A2.put (some 3) (.int .i64 0)) _
 generalize A2.put (some 3) (.int .i64 0) = A3 at *
 refine wpList_nil ?_
 show Code.wp _ _ _ _ _
 refine wp_seq (wp_region_list ?_)
 show wpList _ _ _ [b1, b2, b3, b4, b5, b6] _ _
 refine ol_val (w' := w1) (v := V) h4.2.2 (by
  unfold execOp
  rw [h4.2.1]
  simp only [F3.get (by simp : (1, ptr w.heap.size) ∈ _)]
  rw [Sem.run_bind, hl2 w1 _ kx]
  rfl) ?_
 rw [h4.1]
 have F4 := F3.set (i := 4) (v := V) (by omega) rfl
 generalize A3.put (some 4) V = A4 at *
 refine ol_call h5.2.2 gE h5.2.1 (vs := #[V, .func (.func wf) #[] #[], .func (.func mf) #[] #[]]) (by rw [List.map_toArray]; simp only [List.map_cons, List.map_nil]; rw [F4.get (by simp : (4, V) ∈ _)]; rfl) (hG2 w1 bw) ?_
 rintro e w2 ⟨out, er, rfl, b2', hP⟩
 refine ⟨_, rfl, ?_⟩
 rw [h5.1]
 have F5 := F4.set (i := 5) (v := .tuple #[str out, .int .i64 er]) (by omega) rfl
 generalize A4.put (some 5) (.tuple #[str out, .int .i64 er]) = A5 at *
 refine ol_val (w' := w2) (v := str out) h6.2.2 (by unfold execOp; rw [h6.2.1]; simp only [F5.get (by simp : (5, Value.tuple #[str out, .int .i64 er]) ∈ _)]; rfl) ?_
 rw [h6.1]
 have F6 := F5.set (i := 6) (v := str out) (by omega) rfl
 generalize A5.put (some 6) (str out) = A6 at *
 refine ol_val (w' := w2) (v := .int .i64 er) h7.2.2 (by unfold execOp; rw [h7.2.1]; simp only [F6.get (by simp : (5, Value.tuple #[str out, .int .i64 er]) ∈ _)]; rfl) ?_
 rw [h7.1]
 have F7 := F6.set (i := 7) (v := .int .i64 er) (by omega) rfl
 generalize A6.put (some 7) (.int .i64 er) = A7 at *
 refine ol_move h8.2.2 (.inr h8.2.1) ?_
 rw [h8.1, F7.get (by simp : (6, str out) ∈ _)]
 have F8 := F7.set (i := 2) (v := str out) (by omega) rfl
 generalize A7.put (some 2) (str out) = A8 at *
 refine ol_move h9.2.2 (.inr h9.2.1) ?_
 rw [h9.1, F8.get (by simp : (7, Value.int .i64 er) ∈ _)]
 have F9 := F8.set (i := 3) (v := .int .i64 er) (by omega) rfl
 generalize A8.put (some 3) (.int .i64 er) = A9 at *
 refine wpList_nil ?_
 show Code.wp _ _ _ _ _
 exact wp_ret (bodyPost_ret (results_two hres (F9.get (by simp : (2, str out) ∈ _)) (F9.get (by simp : (3, Value.int .i64 er) ∈ _)) _) F9.2.1 ⟨out, er, rfl, bw.trans (b2'.mono bw.size), hP⟩)
end Go.Proofs.YtackcbpabjhmpaaGreat
