import Derived.Test.YtackcbpabjhmpaaGreatJL2
namespace Go.Proofs.YtackcbpabjhmpaaGreat
open Go.RowKit
set_option linter.unusedVariables false
set_option linter.unusedSimpArgs false
theorem ca_test {N id i j sk : Nat} {o1 o2 : Oper} {ti tj : TypeId} {k c : Int} {X Y : Code} {L : List (Nat × Value)} {A : Act} {w : World} {Q : Exit → Act → World → Prop}
  (h1 : Is o1 (some i) (.binOp .eql ti (.tmp sk) (.const (.int .i64 c)) tj)) (h2 : Is o2 (some j) (.assign (.tmp i))) (chk : (freeOf [i, j] L && decide (i < N) && decide (j < N)) = true) (ms : (sk, .int .i64 k) ∈ L) (F : Fr N L A)
  (Ky : k = c → ∀ A', Fr N L A' → X.wp Tryz.prog Q A' w) (Kn : k ≠ c → ∀ A', Fr N L A' → Y.wp Tryz.prog Q A' w) : (Code.seq (.region id #[o1, o2] false) (.cond (.tmp j) X Y)).wp Tryz.prog Q A w := by
 simp only [Bool.and_eq_true, decide_eq_true_eq] at chk
 obtain ⟨⟨c1, d1⟩, d2⟩ := chk
 refine wp_seq (wp_region_list ?_)
 show wpList _ _ _ [o1, o2] _ _
 refine ol_val h1.2.2 (run_eql h1.2.1 (F.get ms) rfl) ?_
 rw [h1.1]
 have F1 := F.put (v := .bool (k == c)) c1 (show i ∈ _ by simp)
 refine ol_move h2.2.2 (.inr h2.2.1) ?_
 rw [h2.1, eval_put_self (by rw [F.1]; exact d1)]
 have F2 := F1.put (v := .bool (k == c)) c1 (show j ∈ _ by simp)
 refine wpList_nil ?_
 show Code.wp _ _ _ _ _
 refine wp_cond_split (t := (k == c)) (eval_put_self (by rw [F1.1]; exact d2)) (fun h => Ky (by simpa using h) _ F2) (fun h => Kn (by simpa using h) _ F2)
theorem case_fin {N id pr l0 l1 l2 l3 l4 l5 l6 sy yb ab bb : Nat} {v0 v1 v2 v3 v4 v5 v6 v7 v8 : Oper} {K : Kd} {ty t3 t4 : TypeId} {ts : Array TypeId} {s : List UInt8} {w0 : World} {fs gs : List Fld} {er pe : Int} {out : List UInt8} {L : List (Nat × Value)} {A : Act} {w : World} {Q : Exit → Act → World → Prop}
  (hPr : PutC pr K) (hbk : K.backs) (hw : K.wrap = .agg) (d0 : Is v0 (some l0) (.load ty (.tmp sy))) (d1 : Is v1 (some l1) (.call { callee := .value (.func pr), args := #[.tmp l0], argTypes := ts })) (d2 : Is v2 (some l2) (.move (.tmp l1))) (d3 : Is v3 (some l3) (.extract (.tmp l2) 0)) (d4 : Is v4 (some l4) (.extract (.tmp l2) 1)) (d5 : Is v5 (some l5) (.fieldAddr 24 (.tmp 7) 3)) (d6 : Is v6 none (.store t3 (.tmp l5) (.tmp l3))) (d7 : Is v7 (some l6) (.fieldAddr 24 (.tmp 7) 2)) (d8 : Is v8 none (.store t4 (.tmp l6) (.tmp l4)))
  (hrt : rowT Tryz.prog ty = true) (hsz : (Tryz.prog.info? ty).map (·.size) = some K.sc.length) (s3 : (Tryz.prog.info? t3).map (·.size) = some 1) (s4 : (Tryz.prog.info? t4).map (·.size) = some 1) (f3 : fldOff Tryz.prog 24 3 = some 3) (f2 : fldOff Tryz.prog 24 2 = some 2)
  (chk : (freeOf [l0, l1, l2, l3, l4, l5, l6] L && decide (l0 < N) && decide (l1 < N) && decide (l2 < N) && decide (l3 < N) && decide (l4 < N) && decide (l5 < N) && decide (l6 < N) && decide (l3 ≠ l2) && decide (l4 ≠ l3) && decide (l5 ≠ l3) && decide (l5 ≠ l4) && decide (l6 ≠ l4)) = true) (my : (sy, ptr yb) ∈ L) (m7 : (7, ptr bb) ∈ L) (F : Fr N L A) (H : Cs K s ab bb w0 fs gs er pe out w) (ky : Blk w yb (gs.map Fld.val).toArray ty) (hne : ab ≠ bb)
  (K' : ∀ A' w', Fr N L A' → Dn s ab bb w' → But (fun k => k = ab ∨ k = bb) w w' → Q .normal A' w') : (Code.region id #[v0, v1, v2, v3, v4, v5, v6, v7, v8] false).wp Tryz.prog Q A w := by
 refine ca_put (K := K) (fs := gs) (gb := bb) hPr ⟨d0.1, d0.2.2⟩ d1 d2 d3 d4 d5 d6 d7 d8 s3 s4 f3 f2 chk m7 F (by rw [hw]; exact load_op (i := 0) (b := yb) d0.2.1 hrt (by rw [hsz, fits_len H.fit]) my ky A F) H.fit H.lie H.b rfl ?_
 intro A6 out' pe' w7 F6 b7 hp7
 exact K' A6 _ F6 (H.dn hbk hne b7 hp7) (cs_but b7)
theorem case_same {N id i1 i2 i3 sx sy xb yb : Nat} {o1 o2 o3 : Oper} {ty ti tj : TypeId} {C : Array Value} {L : List (Nat × Value)} {A : Act} {w : World} {X : Code} {Q : Exit → Act → World → Prop}
  (h1 : Is o1 (some i1) (.load ty (.tmp sx))) (h2 : Is o2 (some i2) (.load ty (.tmp sy))) (h3 : Is o3 (some i3) (.binOp .neq ti (.tmp i1) (.tmp i2) tj)) (hrt : rowT Tryz.prog ty = true) (hsz : (Tryz.prog.info? ty).map (·.size) = some C.size) (heq : ∀ (x y : Operand) (w : World), (do eqGuard .neq ti x y (.agg C) (.agg C); binOp .neq ti (.agg C) (.agg C) : Sem Value).run Tryz.prog w = .ok (.bool false) w)
  (chk : (freeOf [i1, i2, i3] L && decide (i1 < N) && decide (i2 < N) && decide (i3 < N) && decide (i2 ≠ i1)) = true) (mx : (sx, ptr xb) ∈ L) (my : (sy, ptr yb) ∈ L) (F : Fr N L A) (kx : Blk w xb C ty) (ky : Blk w yb C ty) (K' : ∀ A', Fr N L A' → Q .normal A' w) : (Code.seq (.region id #[o1, o2, o3] false) (.cond (.tmp i3) X .skip)).wp Tryz.prog Q A w := by
 simp only [Bool.and_eq_true, decide_eq_true_eq] at chk
 obtain ⟨⟨⟨⟨c1, d1⟩, d2⟩, d3⟩, e1⟩ := chk
 obtain ⟨d, hu, hd⟩ := rowT_out hrt
 refine wp_seq (wp_region_list ?_)
 show wpList _ _ _ [o1, o2, o3] _ _
 refine ol_row h1.2.2 h1.2.1 (F.get mx) (cs := C.toList) kx.range hu hd (by rw [hsz]; simp) ?_
 rw [h1.1, Array.toArray_toList]
 have F1 := F.put (v := .agg C) c1 (show i1 ∈ _ by simp)
 have q1 : (A.put (some i1) (.agg C)).eval (.tmp i1) = .agg C := eval_put_self (by rw [F.1]; exact d1)
 generalize A.put (some i1) (.agg C) = A1 at *
 refine ol_row h2.2.2 h2.2.1 (F1.get my) (cs := C.toList) ky.range hu hd (by rw [hsz]; simp) ?_
 rw [h2.1, Array.toArray_toList]
 have F2 := F1.put (v := .agg C) c1 (show i2 ∈ _ by simp)
 have q2 : (A1.put (some i2) (.agg C)).eval (.tmp i1) = .agg C := (eval_put e1).trans q1
 have r2 : (A1.put (some i2) (.agg C)).eval (.tmp i2) = .agg C := eval_put_self (by rw [F1.1]; exact d2)
 generalize A1.put (some i2) (.agg C) = A2 at *
 refine ol_val (w' := w) (v := .bool false) h3.2.2 (by
  unfold execOp
  rw [h3.2.1]
  simp only [q2, r2]
  rw [Sem.run_bind, heq]
  rfl) ?_
 rw [h3.1]
 have F3 := F2.put (v := .bool false) c1 (show i3 ∈ _ by simp)
 refine wpList_nil ?_
 show Code.wp _ _ _ _ _
 exact wp_cond_false (eval_put_self (by rw [F2.1]; exact d3)) (wp_skip (K' _ F3))
theorem ca_last {N id i1 i2 ab bb ra rb : Nat} {o1 o2 o3 o4 : Oper} {fn : Func} {C D c5 c6 : Array Value} {L : List (Nat × Value)} {A : Act} {w : World} {R : Ending → World → Prop}
  (h1 : Is o1 (some i1) (.load 24 (.tmp 6))) (h2 : Is o2 (some i2) (.load 24 (.tmp 7))) (h3 : Is o3 none (.store 24 (.tmp 4) (.tmp i1))) (h4 : Is o4 none (.store 24 (.tmp 5) (.tmp i2))) (hres : fn.results = #[.cell 4 24, .cell 5 24])
  (n1 : Region.noSelect #[o1, o2, o3, o4] = true) (n2 : Region.free .any #[o1, o2, o3, o4] #[false, false, false, false] 0 = true) (n3 : (Region.ready .any #[o1, o2, o3, o4] #[false, false, false, false]).contains 0 = true) (n4 : Region.free .any #[o1, o2, o3, o4] #[true, false, false, false] 1 = true) (n5 : (Region.ready .any #[o1, o2, o3, o4] #[true, false, false, false]).contains 1 = true) (n6 : Region.ready .any #[o1, o2, o3, o4] #[true, true, false, false] = [2]) (n7 : Region.ready .any #[o1, o2, o3, o4] #[true, true, true, false] = [3]) (n8 : Region.ready .any #[o1, o2, o3, o4] #[true, true, true, true] = [])
  (hrt : rowT Tryz.prog 24 = true) (hsz : (Tryz.prog.info? 24).map (·.size) = some 4) (hC : C.size = 4 ∧ D.size = 4 ∧ c5.size = 4 ∧ c6.size = 4) (hone : (∀ u ∈ C.toList, u.oneCell' = true) ∧ ∀ u ∈ D.toList, u.oneCell' = true) (chk : (freeOf [i1, i2] L && decide (i1 < N) && decide (i2 < N) && decide (i2 ≠ i1)) = true) (m4 : (4, ptr ra) ∈ L) (m5 : (5, ptr rb) ∈ L) (m6 : (6, ptr ab) ∈ L) (m7 : (7, ptr bb) ∈ L) (F : Fr N L A) (ka : Blk w ab C 24) (kb : Blk w bb D 24) (kr : Blk w ra c5 24) (ks : Blk w rb c6 24) (hne : ra ≠ ab ∧ ra ≠ bb ∧ rb ≠ ab ∧ rb ≠ bb ∧ ra ≠ rb)
  (K' : ∀ w', But (fun k => k = ra ∨ k = rb) w w' → R (.returned (.tuple #[.agg C, .agg D])) w') : (Code.seq (.region id #[o1, o2, o3, o4] true) .ret).wp Tryz.prog (bodyPost Tryz.prog fn R) A w := by
 simp only [Bool.and_eq_true, decide_eq_true_eq] at chk
 obtain ⟨⟨⟨c1, d1⟩, d2⟩, e1⟩ := chk
 obtain ⟨d, hu, hd⟩ := rowT_out hrt
 refine wp_seq (wp_region_held_drew (S := fun v => Blk v ab C 24 ∧ Blk v bb D 24) (by kernel_rfl) ⟨ka, kb⟩ ?_)
 intro hS
 have F1 := F.put (v := .agg C) c1 (show i1 ∈ _ by simp)
 have q1 : (A.put (some i1) (.agg C)).eval (.tmp i1) = .agg C := eval_put_self (by rw [F.1]; exact d1)
 have e_1 : o1.dst = some i1 := h1.1
 have ld : ∀ (o : Oper) (i b : Nat) (E : Array Value) (sg : Nat) (A' : Act), o.op = .load 24 (.tmp sg) → A'.eval (.tmp sg) = ptr b → E.size = 4 → ∀ v, Blk v b E 24 → (execOp A'.eval o).run Tryz.prog v = .ok (.value (.agg E)) v := fun o i b E sg A' ho hx hE v kE => by
  unfold execOp
  rw [ho]
  have := run_loadAt_mid (P := Tryz.prog) v b 0 24 E.toList d kE.range hu hd (by rw [hsz]; simp [hE])
  rw [Array.toArray_toList] at this
  simp only [hx, ptr, Sem.run_bind, this]
  rfl
 show wpAnyH _ _ _ _ _ (3 + 1) #[false, false, false, false] A w.drew
 refine wpAnyH_take (i := 0) (oi := o1) (v := .agg C) rfl n1 n2 n3 (fun c a w h => by rw [e_1] at h; exact h) (Or.inl ⟨by simp [Region.wanted, h1.2.2], fun v hv => ld o1 0 ab C 6 A h1.2.1 (F.get m6) hC.1 v hv.1⟩) hS ?_
 rw [e_1]
 have e_2 : o2.dst = some i2 := h2.1
 generalize A.put (some i1) (.agg C) = A1 at *
 show wpAnyH _ _ _ _ _ (2 + 1) #[true, false, false, false] A1 w.drew
 refine wpAnyH_take (i := 1) (oi := o2) (v := .agg D) rfl n1 n4 n5 (fun c a w h => by rw [e_2] at h; exact h) (Or.inl ⟨by simp [Region.wanted, h2.2.2], fun v hv => ld o2 0 bb D 7 A1 h2.2.1 (F1.get m7) hC.2.1 v hv.2⟩) hS ?_
 rw [e_2]
 have F2 := F1.put (v := .agg D) c1 (show i2 ∈ _ by simp)
 have q2 : (A1.put (some i2) (.agg D)).eval (.tmp i1) = .agg C := (eval_put e1).trans q1
 have r2 : (A1.put (some i2) (.agg D)).eval (.tmp i2) = .agg D := eval_put_self (by rw [F1.1]; exact d2)
 generalize A1.put (some i2) (.agg D) = A2 at *
 show wpAnyH _ _ _ _ _ (1 + 1) #[true, true, false, false] A2 w.drew
 have kr1 : Blk w.drew ra c5 24 := kr.drew
 have ks1 : Blk w.drew rb c6 24 := ks.drew
 have B0 : But (fun k => k = ra ∨ k = rb) w w.drew := But.of_below (Below.drew (Below.refl _ _))
 obtain ⟨ka1, kb1⟩ := hS
 generalize w.drew = w1 at *
 have st : ∀ (o : Oper) (b : Nat) (E E0 : Array Value) (sg i : Nat) (A' : Act) (v : World), o.op = .store 24 (.tmp sg) (.tmp i) → A'.eval (.tmp sg) = ptr b → A'.eval (.tmp i) = .agg E → E.size = 4 → E0.size = 4 → (∀ u ∈ E.toList, u.oneCell' = true) → Blk v b E0 24 → (execOp A'.eval o).run Tryz.prog v = .ok .skip (v.setCells b 0 E.toList) := fun o b E E0 sg i A' v ho hx hy hE hE0 h1 kE => by
  unfold execOp
  rw [ho]
  have := run_storeAt_mid (P := Tryz.prog) v b 0 24 E (kE.thereAt 0 _ (by omega)) (by rw [hsz, hE]) (Array.all_eq_true_iff_forall_mem.2 fun x hx => h1 x (by simpa using hx))
  simp only [hx, hy, ptr, Sem.run_bind, this]
  rfl
 refine wpAnyH_ready (rs := [2]) n6 (by simp) ?_
 refine AllReadyH.cons (o := o3) rfl (fun K hK => ?_) AllReadyH.nil
 rw [if_pos (by simp [Region.wanted, h3.2.2])]
 unfold Oper.wp
 rw [st o3 ra C c5 4 i1 A2 w1 h3.2.1 (F2.get m4) q2 hC.1 hC.2.2.1 hone.1 kr1, Oper.upon_skip, h3.1]
 have Ba := but_cells ra C.toList 0 w1
 have kr2 : Blk (w1.setCells ra 0 C.toList) ra C 24 := by
  have q := kr1.putCells C.toList 0 _ _
  rw [putAt_all (by simp [hC.1, hC.2.2.1]), Array.toArray_toList] at q
  exact q
 have ka2 := Ba.blk ka1 (fun q => hne.1 q.symm)
 have kb2 := Ba.blk kb1 (fun q => hne.2.1 q.symm)
 have ks2 := Ba.blk ks1 (fun q => hne.2.2.2.2 q.symm)
 refine hK.out _ _ ⟨ka2, kb2⟩ (fun _ => ?_)
 clear hK
 show wpAnyH _ _ _ _ _ (0 + 1) #[true, true, true, false] A2 (w1.setCells ra 0 C.toList)
 refine wpAnyH_ready (rs := [3]) n7 (by simp) ?_
 refine AllReadyH.cons (o := o4) rfl (fun K hK => ?_) AllReadyH.nil
 rw [if_pos (by simp [Region.wanted, h4.2.2])]
 unfold Oper.wp
 rw [st o4 rb D c6 5 i2 A2 _ h4.2.1 (F2.get m5) r2 hC.2.1 hC.2.2.2 hone.2 ks2, Oper.upon_skip, h4.1]
 have Bb := but_cells rb D.toList 0 (w1.setCells ra 0 C.toList)
 have ks3 : Blk ((w1.setCells ra 0 C.toList).setCells rb 0 D.toList) rb D 24 := by
  have q := ks2.putCells D.toList 0 _ _
  rw [putAt_all (by simp [hC.2.1, hC.2.2.2]), Array.toArray_toList] at q
  exact q
 have kr3 := Bb.blk kr2 (fun q => hne.2.2.2.2 q)
 refine hK.out _ _ ⟨Bb.blk ka2 (fun q => hne.2.2.1 q.symm), Bb.blk kb2 (fun q => hne.2.2.2.1 q.symm)⟩ (fun _ => ?_)
 clear hK
 show wpAnyH _ _ _ _ _ 0 #[true, true, true, true] A2 _
 refine wpAnyH_done n8 ?_ _
 show Code.wp _ _ _ _ _
 have hfin := K' _ ((B0.trans (Ba.mono fun _ q => .inl q)).trans (Bb.mono fun _ q => .inr q))
 generalize (w1.setCells ra 0 C.toList).setCells rb 0 D.toList = w3 at *
 refine wp_ret (bodyPost_ret (v := .tuple #[.agg C, .agg D]) ?_ F2.2.1 hfin)
 have l4 := run_loadVar_mid (P := Tryz.prog) w3 ra 0 24 C.toList d kr3.range hu hd (by rw [hsz]; simp [hC.1])
 have l5 := run_loadVar_mid (P := Tryz.prog) w3 rb 0 24 D.toList d ks3.range hu hd (by rw [hsz]; simp [hC.2.1])
 rw [Array.toArray_toList] at l4 l5
 have e4 : A2.tmps[4]?.getD undef = .pointer (some ⟨ra, 0, none⟩) := by
  have := F2.get m4
  unfold Act.eval at this
  rw [← Array.getD_eq_getD_getElem?]
  exact this
 have e5 : A2.tmps[5]?.getD undef = .pointer (some ⟨rb, 0, none⟩) := by
  have := F2.get m5
  unfold Act.eval at this
  rw [← Array.getD_eq_getD_getElem?]
  exact this
 simp [results, hres, asAddr, e4, e5, l4, l5]
theorem size_cells (b : Nat) : ∀ (vs : List Value) (o : Nat) (w : World), (w.setCells b o vs).heap.size = w.heap.size
 | [], _, _ => rfl
 | v :: r, o, w => by rw [World.setCells, size_cells b r]; simp
def PairQ (s : List UInt8) (w : World) (e : Ending) (w' : World) : Prop := ∃ er pe out, e = .returned (.tuple #[.agg (gotC er pe out), .agg (gotC er pe out)]) ∧ Below w.heap.size w w' ∧ (er = 0 → pe = 0 ∧ out = s)
theorem fr_two {fn : Func} {x y : Value} {N : Nat} (h : fn.ntmps = N) (h1 : 2 ≤ N) : Fr N [(0, x), (1, y)] { tmps := #[x, y] ++ Array.replicate (fn.ntmps - (#[x, y] : Array Value).size) undef, defers := [] } := by
 refine ⟨by simp; omega, rfl, fun p hp => ?_⟩
 simp only [Act.eval, Array.getD_eq_getD_getElem?]
 rcases List.mem_cons.1 hp with rfl | hp
 ·rw [Array.getElem?_append_left (by simp)]; rfl
 ·rw [List.mem_singleton.1 hp, Array.getElem?_append_left (by simp)]; rfl
theorem ca_open {N id0 id1 id2 id3 i j sk : Nat} {p1 p2 q1 q2 q3 r1 r2 r3 t1 : Oper} {X Y : Code} {k : Int} {s : List UInt8} {A : Act} {w : World} {Q : Exit → Act → World → Prop}
  (h1 : Is p1 (some 4) (.alloc 24)) (h2 : Is p2 (some 5) (.alloc 24)) (g1 : Is q1 (some i) (.build 24 #[])) (g2 : Is q2 (some 6) (.alloc 24)) (g3 : Is q3 none (.store 24 (.tmp 6) (.tmp i))) (f1 : Is r1 (some j) (.build 24 #[])) (f2 : Is r2 (some 7) (.alloc 24)) (f3 : Is r3 none (.store 24 (.tmp 7) (.tmp j))) (e1 : Is t1 (some sk) (.move (.tmp 0)))
  (chk : decide (7 < i) && decide (7 < j) && decide (7 < sk) && decide (i < N) && decide (j < N) && decide (sk < N) = true) (hz : (Tryz.prog.info? 24).map (fun i => (i.zero, i.size)) = some (some (.agg got0), 4)) (hb : Tryz.prog.built 24 [] = some got0) (F : Fr N [(0, .int .i64 k), (1, str s)] A)
  (K' : ∀ A' w', Fr N [(sk, .int .i64 k), (7, ptr (w.heap.size + 3)), (6, ptr (w.heap.size + 2)), (5, ptr (w.heap.size + 1)), (4, ptr w.heap.size), (0, .int .i64 k), (1, str s)] A' → Blk w' (w.heap.size + 2) got0 24 → Blk w' (w.heap.size + 3) got0 24 → Blk w' w.heap.size got0 24 → Blk w' (w.heap.size + 1) got0 24 → Below w.heap.size w w' → X.wp Tryz.prog (Exit.then (Y.wp Tryz.prog Q) Q) A' w') :
  (Code.seq (.region id0 #[p1, p2] false) (.seq (.region id1 #[q1, q2, q3] false) (.seq (.region id2 #[r1, r2, r3] false) (.seq (.seq (.region id3 #[t1] false) X) Y)))).wp Tryz.prog Q A w := by
 simp only [Bool.and_eq_true, decide_eq_true_eq] at chk
 obtain ⟨⟨⟨⟨⟨d1, d2⟩, d3⟩, d4⟩, d5⟩, d6⟩ := chk
 have hsz : (Tryz.prog.info? 24).map (·.size) = some 4 := by
  cases hq : Tryz.prog.info? 24 with
  | none => rw [hq] at hz; cases hz
  | some i => rw [hq] at hz; simp at hz ⊢; exact hz.2
 have fr : ∀ (n : Nat) (L : List (Nat × Value)), (∀ p ∈ L, p.1 < n) → freeOf [n] L = true := fun n L h => List.all_eq_true.2 fun p hp => by have := h p hp; simp; omega
 have hone : ∀ u ∈ got0.toList, u.oneCell' = true := by intro u hu; simp [got0] at hu; rcases hu with rfl | rfl | rfl | rfl <;> rfl
 refine wp_seq (wp_region_list ?_)
 show wpList _ _ _ [p1, p2] _ _
 refine ol_alloc h1.2.2 h1.2.1 hz ?_
 rw [h1.1]
 have F1 := F.set (i := 4) (v := ptr w.heap.size) (by omega) rfl
 have k4 := Blk.new w got0 24
 have bw := (Below.refl w.heap.size w).alloc (Nat.le_refl _) (.cells got0 24)
 have z1 : (w.alloc (.cells got0 24)).heap.size = w.heap.size + 1 := World.size_alloc _ _
 show wpList _ _ _ _ (A.put (some 4) (ptr w.heap.size)) (w.alloc (.cells got0 24))
 generalize A.put (some 4) (ptr w.heap.size) = A1 at *
 generalize w.alloc (.cells got0 24) = w1 at *
 refine ol_alloc h2.2.2 h2.2.1 hz ?_
 rw [h2.1]
 have F2 := F1.set (i := 5) (v := ptr w1.heap.size) (by omega) rfl
 have k5 := Blk.new w1 got0 24
 have k4 := k4.alloc (.cells got0 24)
 have bw := bw.alloc bw.size (.cells got0 24)
 have z2 : (w1.alloc (.cells got0 24)).heap.size = w1.heap.size + 1 := World.size_alloc _ _
 show wpList _ _ _ _ (A1.put (some 5) (ptr w1.heap.size)) (w1.alloc (.cells got0 24))
 generalize A1.put (some 5) (ptr w1.heap.size) = A2 at *
 generalize w1.alloc (.cells got0 24) = w2 at *
 refine wpList_nil ?_
 show Code.wp _ _ _ _ _
 refine wp_seq (wp_region_list ?_)
 show wpList _ _ _ [q1, q2, q3] _ _
 refine ol_build g1.2.2 g1.2.1 (Z := got0) (by simpa using hb) ?_
 rw [g1.1]
 have F3 := F2.set (i := i) (v := .agg got0) (by omega) (fr _ _ (by intro p hp; simp at hp; rcases hp with rfl | rfl | rfl | rfl <;> simp <;> omega))
 generalize A2.put (some i) (.agg got0) = A3 at *
 refine ol_alloc g2.2.2 g2.2.1 hz ?_
 rw [g2.1]
 have q3' : (A3.put (some 6) (ptr w2.heap.size)).eval (.tmp i) = .agg got0 := (eval_put (by omega)).trans (F3.get (by simp))
 have F4 := F3.tl.set (i := 6) (v := ptr w2.heap.size) (by omega) rfl
 have k6 := Blk.new w2 got0 24
 have k4 := k4.alloc (.cells got0 24)
 have k5 := k5.alloc (.cells got0 24)
 have bw := bw.alloc bw.size (.cells got0 24)
 have z3 : (w2.alloc (.cells got0 24)).heap.size = w2.heap.size + 1 := World.size_alloc _ _
 show wpList _ _ _ _ (A3.put (some 6) (ptr w2.heap.size)) (w2.alloc (.cells got0 24))
 generalize A3.put (some 6) (ptr w2.heap.size) = A4 at *
 generalize w2.alloc (.cells got0 24) = w3 at *
 refine ol_store g3.2.2 g3.1 g3.2.1 (F4.get (by simp : (6, ptr w2.heap.size) ∈ _)) q3' (k6.thereAt 0 _ (by show 0 + 4 ≤ 4; omega)) hsz hone ?_
 have B1 := but_cells w2.heap.size got0.toList 0 w3
 have k6 : Blk (w3.setCells w2.heap.size 0 got0.toList) w2.heap.size got0 24 := k6.putCells got0.toList 0 _ _
 have k4 := B1.blk k4 (by omega)
 have k5 := B1.blk k5 (by omega)
 have bw := bw.trans (B1.below (B := w.heap.size) bw.size (fun k q => by omega))
 have z4 := B1.size
 have z4' : (w3.setCells w2.heap.size 0 got0.toList).heap.size = w3.heap.size := size_cells _ _ _ _
 show wpList _ _ _ _ _ (w3.setCells w2.heap.size 0 got0.toList)
 generalize w3.setCells w2.heap.size 0 got0.toList = w4 at *
 refine wpList_nil ?_
 show Code.wp _ _ _ _ _
 refine wp_seq (wp_region_list ?_)
 show wpList _ _ _ [r1, r2, r3] _ _
 refine ol_build f1.2.2 f1.2.1 (Z := got0) (by simpa using hb) ?_
 rw [f1.1]
 have F5 := F4.set (i := j) (v := .agg got0) (by omega) (fr _ _ (by intro p hp; simp at hp; rcases hp with rfl | rfl | rfl | rfl | rfl <;> simp <;> omega))
 generalize A4.put (some j) (.agg got0) = A5 at *
 refine ol_alloc f2.2.2 f2.2.1 hz ?_
 rw [f2.1]
 have q5' : (A5.put (some 7) (ptr w4.heap.size)).eval (.tmp j) = .agg got0 := (eval_put (by omega)).trans (F5.get (by simp))
 have F6 := F5.tl.set (i := 7) (v := ptr w4.heap.size) (by omega) rfl
 have k7 := Blk.new w4 got0 24
 have k4 := k4.alloc (.cells got0 24)
 have k5 := k5.alloc (.cells got0 24)
 have k6 := k6.alloc (.cells got0 24)
 have bw := bw.alloc bw.size (.cells got0 24)
 show wpList _ _ _ _ (A5.put (some 7) (ptr w4.heap.size)) (w4.alloc (.cells got0 24))
 generalize A5.put (some 7) (ptr w4.heap.size) = A6 at *
 generalize w4.alloc (.cells got0 24) = w5 at *
 refine ol_store f3.2.2 f3.1 f3.2.1 (F6.get (by simp : (7, ptr w4.heap.size) ∈ _)) q5' (k7.thereAt 0 _ (by show 0 + 4 ≤ 4; omega)) hsz hone ?_
 have B2 := but_cells w4.heap.size got0.toList 0 w5
 have k7 : Blk (w5.setCells w4.heap.size 0 got0.toList) w4.heap.size got0 24 := k7.putCells got0.toList 0 _ _
 have k4 := B2.blk k4 (by omega)
 have k5 := B2.blk k5 (by omega)
 have k6 := B2.blk k6 (by omega)
 have bw := bw.trans (B2.below (B := w.heap.size) bw.size (fun k q => by omega))
 show wpList _ _ _ _ _ (w5.setCells w4.heap.size 0 got0.toList)
 generalize w5.setCells w4.heap.size 0 got0.toList = w6 at *
 refine wpList_nil ?_
 show Code.wp _ _ _ _ _
 have hw1 : w1.heap.size = w.heap.size + 1 := z1
 have hw2 : w2.heap.size = w.heap.size + 2 := by omega
 have hw4 : w4.heap.size = w.heap.size + 3 := by omega
 rw [hw1] at F6 k5
 rw [hw2] at F6 k6
 rw [hw4] at F6 k7
 refine wp_seq (wp_seq (wp_region_list ?_))
 show wpList _ _ _ [t1] _ _
 refine ol_move e1.2.2 (.inl e1.2.1) ?_
 rw [e1.1, F6.get (by simp : (0, Value.int .i64 k) ∈ _)]
 have F7 := F6.set (i := sk) (v := .int .i64 k) (by omega) (fr _ _ (by intro p hp; simp at hp; rcases hp with rfl | rfl | rfl | rfl | rfl | rfl <;> simp <;> omega))
 refine wpList_nil ?_
 show Code.wp _ _ _ _ _
 exact K' _ w6 F7 k6 k7 k4 k5 bw
end Go.Proofs.YtackcbpabjhmpaaGreat
