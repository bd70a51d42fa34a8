import Derived.Test.YtackcbpabjhmpaaGreatM49
namespace Go.Proofs.YtackcbpabjhmpaaGreat
open Go.RowKit
set_option linter.unusedVariables false
set_option linter.unusedSimpArgs false
theorem st_new {N id ib se gb a : Nat} {p1 p2 p3 : Oper} {L : List (Nat × Value)} {B : List UInt8} {E : Int} {w : World} {sc : List Sc} {ty : TypeId} {A : Act} {Q : Exit → Act → World → Prop}
  (g1 : Is p1 (some ib) (.build ty #[])) (g2 : Is p2 (some se) (.alloc ty)) (g3 : Is p3 none (.store ty (.tmp se) (.tmp ib)))
  (chk : (freeOf [ib, se] L && decide (ib < N) && decide (se < N) && decide (se ≠ ib)) = true) (hz : (Tryz.prog.info? ty).map (fun i => (i.zero, i.size)) = some (some (.agg (zArr sc)), sc.length)) (hb : Tryz.prog.built ty [] = some (zArr sc)) (F : Fr N L A) (k : Gt w gb B a E) (ha : a ≤ B.length)
  (K : ∀ A' w', Fr N ((se, ptr w.heap.size) :: L) A' → Sf gb w.heap.size B (B.drop a) E w (zArr sc) ty [] [] a E w' → Q .normal A' w') : (Code.region id #[p1, p2, p3] false).wp Tryz.prog Q A w := by
 simp only [Bool.and_eq_true, decide_eq_true_eq] at chk
 obtain ⟨⟨⟨f1, d1⟩, d2⟩, d3⟩ := chk
 have hsz : (Tryz.prog.info? ty).map (·.size) = some (zArr sc).size := by
  rw [zArr_size]
  cases hq : Tryz.prog.info? ty with
  | none => rw [hq] at hz; cases hz
  | some i => rw [hq] at hz; simp at hz ⊢; exact hz.2
 refine wp_region_list ?_
 show wpList _ _ _ [p1, p2, p3] _ _
 refine ol_build g1.2.2 g1.2.1 (Z := zArr sc) (by simpa using hb) ?_
 rw [g1.1]
 have F1 := F.put (v := .agg (zArr sc)) f1 (show ib ∈ _ by simp)
 have q1 : (A.put (some ib) (.agg (zArr sc))).eval (.tmp ib) = .agg (zArr sc) := eval_put_self (by rw [F.1]; exact d1)
 generalize A.put (some ib) (.agg (zArr sc)) = A1 at *
 refine ol_alloc g2.2.2 g2.2.1 hz ?_
 rw [g2.1]
 have F2 := (F1.put (v := ptr w.heap.size) f1 (show se ∈ _ by simp)).add (eval_put_self (by rw [F1.1]; exact d2))
 have q2 : (A1.put (some se) (ptr w.heap.size)).eval (.tmp ib) = .agg (zArr sc) := (eval_put d3).trans q1
 have q2' : (A1.put (some se) (ptr w.heap.size)).eval (.tmp se) = ptr w.heap.size := eval_put_self (by rw [F1.1]; exact d2)
 show wpList _ _ _ _ (A1.put (some se) (ptr w.heap.size)) (w.alloc (.cells (zArr sc) ty))
 generalize A1.put (some se) (ptr w.heap.size) = A2 at *
 have bA : Below w.heap.size w (w.alloc (.cells (zArr sc) ty)) := (Below.refl _ _).alloc (Nat.le_refl _) _
 have ke := Blk.new w (zArr sc) ty
 generalize w.alloc (.cells (zArr sc) ty) = w1 at *
 refine ol_store g3.2.2 g3.1 g3.2.1 q2' q2 (ke.thereAt 0 _ (by show 0 + (zArr sc).size ≤ _; omega)) hsz (fun u hu => by rw [show (Value.agg (zArr sc)).cells = zArr sc from rfl, ← zFs_val] at hu; exact flds_one _ u hu) ?_
 have ke3 := ke.putCells (zArr sc).toList 0 _ _
 rw [putAt_all (by simp), Array.toArray_toList] at ke3
 have b3 : But (fun k => k = w.heap.size) w1 (w1.setCells w.heap.size 0 (zArr sc).toList) := but_cells _ _ _ _
 have hgw : gb < w.heap.size := Blk.lt k
 exact wpList_nil (K _ _ F2 ⟨b3.blk (Gt.below k bA) (by omega), ke3, hgw, Nat.le_refl _, (But.of_below bA).trans_new b3 (fun k hk q => by omega), by simp [fitsAll], lieAll.nil _ _, PgS.nil E ha⟩)
theorem rg_slots {N idt id0 id1 i tt q p' q' se : Nat} {t1 t2 u2 u3 u4 v1 v2 v3 v4 : Oper} {fn : Func} {K : Kd} {s : List UInt8} {w0 w : World} {fs : List Fld} {er : Int} {ti tj : TypeId} {z : Value} {L : List (Nat × Value)} {A : Act}
  (h1 : Is t1 (some i) (.move (.tmp se))) (h2 : Is t2 (some tt) (.binOp .neq ti (.tmp i) (.const (.int .i64 0)) tj))
  (a2 : Is u2 (some q) (.move (.tmp se))) (a3 : Is u3 (some 2) (.assign (.const z))) (a4 : Is u4 (some 3) (.assign (.tmp q)))
  (b1 : Is v1 (some p') (.move (.tmp 5))) (b2 : Is v2 (some q') (.move (.tmp se))) (b3 : Is v3 (some 2) (.assign (.tmp p'))) (b4 : Is v4 (some 3) (.assign (.tmp q')))
  (hres : fn.results = #[.tmp 2, .tmp 3]) (hz : K.wrap (zArr K.sc) = z) (hsane : K.sc.all Sc.sane = true)
  (chk : (freeOf [i, tt] L && decide (i < N) && decide (tt < N)) = true) (chkA : (freeOf [q] L && decide (q < N) && decide (q ≠ 2) && decide (q ≠ 3) && decide (3 < N)) = true) (chkB : (freeOf [p', q'] L && decide (p' < N) && decide (q' < N) && decide (q' ≠ p') && decide (q' ≠ 2)) = true)
  (m5 : (5, K.wrap (fs.map Fld.val).toArray) ∈ L) (me : (se, .int .i64 er) ∈ L) (F : Fr N L A) (H : Rh K s w0 fs er w) :
  (Code.seq (Code.seq (Code.region idt #[t1, t2] false) (Code.cond (.tmp tt) (Code.seq (Code.region id0 #[u2, u3, u4] false) .ret) .skip)) (Code.seq (Code.region id1 #[v1, v2, v3, v4] false) .ret)).wp Tryz.prog (bodyPost Tryz.prog fn (GetQ K s w0)) A w := by
 simp only [Bool.and_eq_true, decide_eq_true_eq] at chk chkA chkB
 obtain ⟨⟨c1, d1⟩, d2⟩ := chk
 obtain ⟨⟨⟨⟨cA, dA⟩, eA⟩, eA'⟩, hN⟩ := chkA
 obtain ⟨⟨⟨⟨cB, dB1⟩, dB2⟩, eB⟩, eB'⟩ := chkB
 have give : ∀ (A' : Act) (x : Value) (y : Int) (Q : Exit → Act → World → Prop), A'.defers = [] → A'.eval (.tmp 2) = x → A'.eval (.tmp 3) = .int .i64 y → GetQ K s w0 (.returned (.tuple #[x, .int .i64 y])) w → bodyPost Tryz.prog fn (GetQ K s w0) .ret A' w := by
  intro A' x y Q hd h2 h3 hG
  refine bodyPost_ret (v := .tuple #[x, .int .i64 y]) ?_ hd hG
  rw [results_tmp2 hres]
  have e2 : A'.tmps.getD 2 undef = x := h2
  have e3 : A'.tmps.getD 3 undef = .int .i64 y := h3
  rw [e2, e3]
 refine wp_seq (wp_seq (wp_region_list ?_))
 show wpList _ _ _ [t1, t2] _ _
 refine ol_move h1.2.2 (.inl h1.2.1) ?_
 rw [h1.1, F.get me]
 have F1 := F.put (v := .int .i64 er) c1 (show i ∈ _ by simp)
 refine ol_val h2.2.2 (run_neq h2.2.1 (eval_put_self (by rw [F.1]; exact d1)) rfl) ?_
 rw [h2.1]
 have F2 := F1.put (v := .bool (er != 0)) c1 (show tt ∈ _ by simp)
 have q2 : (Act.put (A.put (some i) (.int .i64 er)) (some tt) (.bool (er != 0))).eval (.tmp tt) = .bool (er != 0) := eval_put_self (by rw [F1.1]; exact d2)
 generalize Act.put (A.put (some i) (.int .i64 er)) (some tt) (.bool (er != 0)) = A2 at *
 refine wpList_nil ?_
 show Code.wp _ _ _ _ _
 by_cases he : er = 0
 ·subst he
  refine wp_cond_false q2 (wp_skip ?_)
  show Code.wp _ _ _ _ _
  refine wp_seq (wp_region_list ?_)
  show wpList _ _ _ [v1, v2, v3, v4] _ _
  refine ol_move b1.2.2 (.inl b1.2.1) ?_
  rw [b1.1, F2.get m5]
  have F3 := F2.put (v := K.wrap (fs.map Fld.val).toArray) cB (show p' ∈ _ by simp)
  have q3 : (A2.put (some p') (K.wrap (fs.map Fld.val).toArray)).eval (.tmp p') = K.wrap (fs.map Fld.val).toArray := eval_put_self (by rw [F2.1]; exact dB1)
  generalize A2.put (some p') (K.wrap (fs.map Fld.val).toArray) = A3 at *
  refine ol_move b2.2.2 (.inl b2.2.1) ?_
  rw [b2.1, F3.get me]
  have F4 := F3.put (v := .int .i64 0) cB (show q' ∈ _ by simp)
  have q4 : (A3.put (some q') (.int .i64 0)).eval (.tmp p') = K.wrap (fs.map Fld.val).toArray := (eval_put eB).trans q3
  have r4 : (A3.put (some q') (.int .i64 0)).eval (.tmp q') = .int .i64 0 := eval_put_self (by rw [F3.1]; exact dB2)
  generalize A3.put (some q') (.int .i64 0) = A4 at *
  refine ol_move b3.2.2 (.inr b3.2.1) ?_
  rw [b3.1, q4]
  refine ol_move b4.2.2 (.inr b4.2.1) ?_
  rw [b4.1, eval_put (fun q => eB' q.symm), r4]
  refine wpList_nil ?_
  show Code.wp _ _ _ _ _
  refine wp_ret (give _ (K.wrap (fs.map Fld.val).toArray) 0 (fun _ _ _ => True) F4.2.1 ?_ ?_ ⟨fs, 0, rfl, H.bel, H.lie, H.fit, H.good rfl⟩)
  ·exact (eval_put (show 3 ≠ 2 by decide)).trans (eval_put_self (by rw [F4.1]; omega))
  ·exact eval_put_self (by rw [size_put, F4.1]; exact hN)
 ·have hne : (er != 0) = true := by simpa using he
  rw [hne] at q2
  refine wp_cond_true q2 (wp_seq (wp_region_list ?_))
  show wpList _ _ _ [u2, u3, u4] _ _
  refine ol_move a2.2.2 (.inl a2.2.1) ?_
  rw [a2.1, F2.get me]
  have F3 := F2.put (v := .int .i64 er) cA (show q ∈ _ by simp)
  have r3 : (A2.put (some q) (.int .i64 er)).eval (.tmp q) = .int .i64 er := eval_put_self (by rw [F2.1]; exact dA)
  generalize A2.put (some q) (.int .i64 er) = A3 at *
  refine ol_move a3.2.2 (.inr a3.2.1) ?_
  rw [a3.1]
  refine ol_move a4.2.2 (.inr a4.2.1) ?_
  rw [a4.1, eval_put (fun q => eA q.symm), r3]
  refine wpList_nil ?_
  show Code.wp _ _ _ _ _
  refine wp_ret (give _ z er (fun _ _ _ => True) F3.2.1 ?_ ?_ ⟨zFs K.sc, er, by rw [zFs_val, hz], H.bel, zFs_lie _ _ _, zFs_fit _ hsane, H.bad he _ rfl⟩)
  ·exact (eval_put (show 3 ≠ 2 by decide)).trans (eval_put_self (by rw [F3.1]; omega))
  ·exact eval_put_self (by rw [size_put, F3.1]; exact hN)
theorem rg_startS {N id0 id1 id2 i1 i2 i3 i j f : Nat} {a1 a2 b1 b2 b3 b4 c1 c2 c3 : Oper} {rest : Code} {K : Kd} {s : List UInt8} {z : Value} {ts : Array TypeId} {A : Act} {w : World} {Q : Exit → Act → World → Prop}
  (hC : RdX f K) (g1 : Is a1 (some 2) (.assign (.const z))) (g2 : Is a2 (some 3) (.assign (.const (.int .i64 0)))) (h1 : Is b1 (some i1) (.move (.tmp 0))) (h2 : Is b2 (some i2) (.build 81 #[(0, .tmp i1)])) (h3 : Is b3 (some i3) (.box 81 (.tmp i2))) (h4 : Is b4 (some 4) (.assign (.tmp i3)))
  (k1 : Is c1 (some i) (.move (.tmp 4))) (k2 : Is c2 (some j) (.call { callee := .value (.func f), args := #[.tmp i], argTypes := ts })) (k3 : Is c3 (some 5) (.assign (.tmp j)))
  (hN : 5 < N) (chk : (freeOf [i1, i2, i3, 4] [(0, str s)] && decide (i1 < N) && decide (i2 < N) && decide (i3 < N) && decide (4 < N)) = true) (chk2 : ∀ v, (freeOf [i, j, 5] [(4, v), (0, str s)] && decide (i < N) && decide (j < N) && decide (5 < N)) = true) (F : Fr N [(0, str s)] A) (hs : s.length ≤ 65536)
  (K' : ∀ A' fs a E w', Fr N [(5, K.wrap (fs.map Fld.val).toArray), (4, ptr w.heap.size), (0, str s)] A' → Gt w' w.heap.size s a E → Below w.heap.size w w' → lieAll (w.heap.size + 1) w' fs → PgX s K.rd (s.drop 0) 0 fs a E → fitsAll K.sc fs → rest.wp Tryz.prog Q A' w') :
  (Code.seq (Code.region id0 #[a1, a2] false) (Code.seq (Code.region id1 #[b1, b2, b3, b4] false) (Code.seq (Code.region id2 #[c1, c2, c3] false) rest))).wp Tryz.prog Q A w := by
 refine wp_seq (wp_region_list ?_)
 show wpList _ _ _ [a1, a2] _ _
 refine ol_move g1.2.2 (.inr g1.2.1) ?_
 rw [g1.1]
 have F1 := F.put (v := z) (is := [2]) (i := 2) rfl (by simp)
 refine ol_move g2.2.2 (.inr g2.2.1) ?_
 rw [g2.1]
 have F2 := F1.put (v := .int .i64 0) (is := [3]) (i := 3) rfl (by simp)
 refine wpList_nil ?_
 show Code.wp _ _ _ (Act.put (A.put (some 2) z) (some 3) (.int .i64 0)) _
 refine wp_seq (rg_get (s := s) h1 h2 h3 h4 chk (by simp) F2 ?_)
 intro A3 w1 F3 g bA
 show Code.wp _ _ _ _ _
 have hg := Blk.lt g
 have chk2' := chk2 (ptr w.heap.size)
 simp only [Bool.and_eq_true, decide_eq_true_eq] at chk2'
 obtain ⟨⟨⟨f1, d1⟩, d2⟩, d3⟩ := chk2'
 refine wp_seq (wp_region_list ?_)
 show wpList _ _ _ [c1, c2, c3] _ _
 refine ol_move k1.2.2 (.inl k1.2.1) ?_
 rw [k1.1, F3.get (by simp : (4, ptr w.heap.size) ∈ _)]
 have F4 := F3.put (v := ptr w.heap.size) f1 (show i ∈ _ by simp)
 refine ol_call k2.2.2 hC.1 k2.2.1 (vs := #[ptr w.heap.size]) (by rw [List.map_toArray]; simp only [List.map_cons, List.map_nil]; rw [eval_put_self (by rw [F3.1]; exact d1)]) (hC.2 w.heap.size s 0 0 w1 g (Nat.zero_le _) (by omega)) ?_
 rintro e w2 ⟨gs, a', E', rfl, g2, b2, l2, p2, z2⟩
 refine ⟨_, rfl, ?_⟩
 rw [k2.1]
 have F5 := F4.put (v := K.wrap (gs.map Fld.val).toArray) f1 (show j ∈ _ by simp)
 refine ol_move k3.2.2 (.inr k3.2.1) ?_
 rw [k3.1, eval_put_self (by rw [F4.1]; exact d2)]
 have F6 := (F5.put (v := K.wrap (gs.map Fld.val).toArray) f1 (show 5 ∈ _ by simp)).add (eval_put_self (by rw [F5.1]; exact d3))
 exact wpList_nil (K' _ gs a' E' w2 F6 g2 (bA.trans (b2.below bA.size (fun k q => by omega))) (l2.mono (by omega)) p2 z2)
set_option maxRecDepth 4000 in
set_option maxHeartbeats 1600000 in
theorem rgetNumber_c : GetC 9 numberK := by
 refine ⟨by kernel_rfl, fun s w hs => ?_⟩
 refine calls_of_wp Tryz.func9 rfl ?_
 refine rg_startS (K := numberK) (RdC.rdx rfl gnum_c) (I rfl) (I rfl) (I rfl) (I rfl) (I rfl) (I rfl) (I rfl) (I rfl) (I rfl) (by decide) rfl (fun _ => rfl) (fr_one (v := str s) Tryz.ntmps9 (by decide)) hs ?_
 intro A fs a E w1 F g bA l p z
 have hq := getP_of (K := numberK) (e0 := 0) (out := []) p (.inl ⟨any_may int_of (fun _ => rfl) fs z, rfl⟩)
 refine wp_seq (rg_end0 (I rfl) (I rfl) (I rfl) rfl (by simp) F ⟨g, p.1, Nat.le_refl _, bA, l, z, hq.1, hq.2⟩ hs ?_)
 clear F
 intro A w2 F H b
 exact rg_slots (I rfl) (I rfl) (I rfl) (I rfl) (I rfl) (I rfl) (I rfl) (I rfl) (I rfl) Tryz.results9 rfl (by kernel_rfl) rfl rfl rfl (by simp) (by simp) F H
set_option maxRecDepth 4000 in
set_option maxHeartbeats 1600000 in
theorem rgetBench_c : GetC 20 benchK := by
 refine ⟨by kernel_rfl, fun s w hs => ?_⟩
 refine calls_of_wp Tryz.func20 rfl ?_
 refine rg_startS (K := benchK) (RdC.rdx rfl gbench_c) (I rfl) (I rfl) (I rfl) (I rfl) (I rfl) (I rfl) (I rfl) (I rfl) (I rfl) (by decide) rfl (fun _ => rfl) (fr_one (v := str s) Tryz.ntmps20 (by decide)) hs ?_
 intro A fs a E w1 F g bA l p z
 refine wp_seq (rg_put rputBench_c ⟨rfl, rfl⟩ (I rfl) (I rfl) (I rfl) (I rfl) (I rfl) (I rfl) rfl rfl F (fun A' F' => by unfold execOp; show (pure (Next.value (A'.eval (.tmp 5))) : Sem Next).run _ _ = _; rw [F'.get (by simp : (5, benchK.wrap (fs.map Fld.val).toArray) ∈ _)]; rfl) g (Nat.le_refl _) bA l z p ?_)
 clear F
 intro A out e0 w2 F H B2
 show Code.wp _ _ _ _ _
 refine wp_seq (rg_end (I rfl) (I rfl) (I rfl) (I rfl) rfl (by simp) F.tl H hs ?_)
 clear F
 intro A w3 F H3 b
 exact rg_slots (I rfl) (I rfl) (I rfl) (I rfl) (I rfl) (I rfl) (I rfl) (I rfl) (I rfl) Tryz.results20 rfl (by kernel_rfl) rfl rfl rfl (by simp) (by simp) F H3
set_option maxRecDepth 4000 in
set_option maxHeartbeats 1600000 in
theorem rgetParcel_c : GetC 106 parcelK := by
 refine ⟨by kernel_rfl, fun s w hs => ?_⟩
 refine calls_of_wp Tryz.func106 rfl ?_
 refine rg_start (sc := parSc) (I rfl) (I rfl) (I rfl) (I rfl) (I rfl) (I rfl) (by decide) (fun _ => rfl) (by kernel_rfl) (fr_one (v := str s) Tryz.ntmps106 (by decide)) ?_
 intro A w1 F g kr b1
 have hg := Blk.lt g
 refine wp_seq (st_new (sc := parSc) (I rfl) (I rfl) (I rfl) rfl (by kernel_rfl) (by kernel_rfl) F g (Nat.zero_le _) ?_)
 clear F
 intro A w2 F S
 refine wp_seq (st_field gnum_c (I rfl) (I rfl) (I rfl) (I rfl) rfl (by kernel_rfl) (by kernel_rfl) (by decide) (by simp) (by simp) F S (by omega) ?_)
 clear F S
 intro A gs0 a E w3 F _ S
 refine wp_seq (st_field gnum_c (I rfl) (I rfl) (I rfl) (I rfl) rfl (by kernel_rfl) (by kernel_rfl) (by decide) (by simp) (by simp) F S (by omega) ?_)
 clear F S
 intro A gs1 a E w3 F _ S
 refine wp_seq (st_field gnum_c (I rfl) (I rfl) (I rfl) (I rfl) rfl (by kernel_rfl) (by kernel_rfl) (by decide) (by simp) (by simp) F S (by omega) ?_)
 clear F S
 intro A gs2 a E w3 F _ S
 have S' : Sf (w.heap.size + 1) w1.heap.size s (s.drop 0) 0 w1 (zArr parSc) 168 parSc ([] ++ gs0 ++ gs1 ++ gs2) a E w3 := S
 have kx : Blk w3 w1.heap.size (([] ++ gs0 ++ gs1 ++ gs2).map Fld.val).toArray 168 := by
  have q := S'.x
  rw [putAt_all (by rw [zArr_size, List.length_map, fits_len S'.fit])] at q
  exact q
 exact rg_tail rputParcel_c rfl (I rfl) (I rfl) (I rfl) (I rfl) (I rfl) (I rfl) (I rfl) (I rfl) (I rfl) (I rfl) (I rfl) (I rfl) (I rfl) (I rfl) (I rfl) (I rfl) (I rfl) (I rfl) (I rfl) (I rfl) (I rfl) Tryz.results106 (by kernel_rfl) (by kernel_rfl) (by kernel_rfl) (by kernel_rfl) (zArr_size _) rfl rfl rfl (fun _ => rfl) (fun _ => rfl) (fun _ => rfl) (by simp) (by simp) (by simp) F S'.g rfl rfl (b1.trans (S'.but.below b1.size (fun k q => by omega))) (S'.but.blk kr (by omega)) kx hg (S'.lie.mono (by omega)) S'.pg S'.fit hs
theorem GetsE.shapeK {X : Type} {wrap : Array Value → Value} {scs : List Sc} {flds : X → List Fld} {may : X → Bool} {s : List UInt8} {z : Array Value} {w : World} {e : Ending} {w' : World} (h : GetsE wrap scs flds may s z w e w') : ∃ a b, e = .returned (.tuple #[a, b]) := by
 rcases h.2 with ⟨er, _, _, h⟩ | ⟨x, _, _, _, ⟨_, h⟩ | ⟨_, h⟩⟩
 ·exact ⟨_, _, h⟩
 ·exact ⟨_, _, h⟩
 ·exact ⟨_, _, h⟩
theorem whole_err {sc : List Sc} {s : List UInt8} {er : Int} (h : readWhole sc s = .error er) : readAll sc s = .error er ∨ (er = 4 ∧ ∃ vs c r, readAll sc s = .ok (vs, c :: r)) := by
 unfold readWhole at h
 cases hr : readAll sc s with
 | error e => rw [hr] at h; injection h with h; exact .inl (by rw [h])
 | ok p =>
  obtain ⟨vs, r⟩ := p
  rw [hr] at h
  simp only at h
  split at h
  ·cases h
  ·injection h with h
   cases r with
   | nil => exact absurd rfl ‹_›
   | cons c r => exact .inr ⟨h.symm, vs, c, r, rfl⟩
theorem whole_ok {sc : List Sc} {s : List UInt8} {vs : List Pv} (h : readWhole sc s = .ok vs) : readAll sc s = .ok (vs, []) := by
 unfold readWhole at h
 cases hr : readAll sc s with
 | error e => rw [hr] at h; cases h
 | ok p =>
  obtain ⟨us, r⟩ := p
  rw [hr] at h
  simp only at h
  split at h
  ·rename_i hn; injection h with h; rw [h, hn]
  ·cases h
theorem gets_q {X : Type} {wr : Array Value → Value} {sc : List Sc} {flds : X → List Fld} {m : X → Bool} {s : List UInt8} {w : World} {e : Ending} {w' : World} (mpv : ∀ x y, pvAll (flds x) = pvAll (flds y) → m x = m y) (hsane : sc.all Sc.sane = true) (h : GetsE wr sc flds m s (zArr sc) w e w') : GetQ { thingK sc flds m with wrap := wr } s w e w' := by
 obtain ⟨hb, ⟨er, h1, h2, rfl⟩ | ⟨x, h1, h2, h3, ⟨h4, rfl⟩ | ⟨h4, rfl⟩⟩⟩ := h
 ·refine ⟨zFs sc, er, by rw [zFs_val], hb, zFs_lie _ _ _, zFs_fit _ hsane, ?_⟩
  rcases whole_err h1 with q | ⟨q, vs, c, r, q2⟩
  ·exact .inl ⟨q, h2, rfl⟩
  ·exact .inr (.inl ⟨vs, c, r, q2, q, rfl⟩)
 ·exact ⟨zFs sc, 2, by rw [zFs_val], hb, zFs_lie _ _ _, zFs_fit _ hsane, .inr (.inr ⟨_, whole_ok h1, .inr ⟨fun q => (by rw [(mayK (sc := sc) mpv x).1 q] at h4; cases h4), rfl, rfl⟩⟩)⟩
 ·exact ⟨flds x, 0, rfl, hb, h3, h2, .inr (.inr ⟨_, whole_ok h1, .inl ⟨(mayK (sc := sc) mpv x).2 h4, rfl, rfl⟩⟩)⟩
set_option maxHeartbeats 800000 in
theorem wgetNumber_c : GetC 8 numberK := ⟨by kernel_rfl, fun s w hs => by
 show Calls Tryz.prog 8 #[.string ⟨s.toArray⟩] w _
 go_enter Tryz.func8, Tryz.ntmps8
 go_wp2_with fail
 refine (get_Number s w (by omega)).mono ?_
 intro e w1 hG
 obtain ⟨a, b, rfl⟩ := hG.shapeK
 have HG : Hid (GetQ numberK s w (.returned (.tuple #[a, b])) w1) := gets_q (fun _ _ _ => rfl) (by kernel_rfl) hG
 clear hG
 go_wp2
 exact bodyPost_ret (v := .tuple #[a, b]) (by simp [results, Tryz.results8, go_sem]) rfl HG.out⟩
set_option maxHeartbeats 800000 in
theorem wgetBench_c : GetC 19 benchK := ⟨by kernel_rfl, fun s w hs => by
 show Calls Tryz.prog 19 #[.string ⟨s.toArray⟩] w _
 go_enter Tryz.func19, Tryz.ntmps19
 go_wp2_with fail
 refine (get_Bench s w (by omega)).mono ?_
 intro e w1 hG
 obtain ⟨a, b, rfl⟩ := hG.shapeK
 have HG : Hid (GetQ benchK s w (.returned (.tuple #[a, b])) w1) := gets_q bench_mpv (by kernel_rfl) hG
 clear hG
 go_wp2
 exact bodyPost_ret (v := .tuple #[a, b]) (by simp [results, Tryz.results19, go_sem]) rfl HG.out⟩
def Kd.backs (K : Kd) : Prop := ∀ s vs r, K.rd s = .ok (vs, r) → K.enc vs ++ r = s
theorem thing_backs {X : Type} (sc : List Sc) (flds : X → List Fld) (m : X → Bool) (wr : Array Value → Value) : Kd.backs { thingK sc flds m with wrap := wr } := fun s vs r h => (readAll_back sc s vs r h).1
theorem rec_backs : recordK.backs := fun s vs r h => by
 have h' : rdRec s = .ok (vs, r) := h
 unfold rdRec at h'
 cases hr : readRec s with
 | error e => rw [hr] at h'; cases h'
 | ok p =>
  obtain ⟨⟨k, us⟩, q⟩ := p
  rw [hr] at h'
  injection h' with h'
  injection h' with e1 e2
  subst e1 e2
  unfold readRec at hr
  cases hn : numP 1099511627775 s with
  | error e => rw [hn] at hr; cases hr
  | ok p =>
   obtain ⟨k', r'⟩ := p
   rw [hn] at hr
   simp only at hr
   cases ha : readAll (recSc k') r' with
   | error e => rw [ha] at hr; cases hr
   | ok p =>
    obtain ⟨us', q'⟩ := p
    rw [ha] at hr
    injection hr with hr
    injection hr with e1 e2
    injection e1 with e1 e3
    subst e1 e2 e3
    obtain ⟨b1, _⟩ := numP_back hn
    obtain ⟨b2, _⟩ := readAll_back _ _ _ _ ha
    have hlen := readAll_len _ _ _ _ ha
    have hk : recKind (recPv k' us') = k' := by
     unfold recPv
     split
     ·rfl
     split
     ·rfl
     split
     ·rfl
     split
     ·rfl
     ·rfl
    have cut : ∀ (p v r : List Pv) (n m : Nat), p.length = n → v.length = m → ((p ++ (v ++ r)).drop n).take m = v := fun p v r n m h1 h2 => by
     rw [List.drop_left' h1, List.take_left' h2]
    have lv : (pvAll (zFs Vote.sc)).length = 6 := by rw [pvAll_len, zFs_len]; rfl
    have lm : (pvAll (zFs Motion.sc)).length = 14 := by rw [pvAll_len, zFs_len]; rfl
    have hc : ((recPv k' us').drop (recOff k')).take (recSc k').length = us' := by
     unfold recPv recOff
     by_cases e1 : k' = 1
     ·rw [if_pos e1, if_pos e1, cut [Pv.i k'] us' _ 1 _ rfl hlen]
     by_cases e2 : k' = 2
     ·rw [if_neg e1, if_pos e2, if_neg e1, if_pos e2, ← List.append_assoc, cut ([Pv.i k'] ++ pvAll (zFs Vote.sc)) us' _ 7 _ (by rw [List.length_append, lv]; rfl) hlen]
     by_cases e3 : k' = 3
     ·rw [if_neg e1, if_neg e2, if_pos e3, if_neg e1, if_neg e2, if_pos e3, ← List.append_assoc, ← List.append_assoc]
      have := cut ([Pv.i k'] ++ pvAll (zFs Vote.sc) ++ pvAll (zFs Motion.sc)) us' [] 21 (recSc k').length (by rw [List.length_append, List.length_append, lv, lm]; rfl) hlen
      rw [List.append_nil] at this
      exact this
     by_cases e4 : k' = 4
     ·rw [if_neg e1, if_neg e2, if_neg e3, if_pos e4, if_neg e1, if_neg e2, if_neg e3, if_pos e4, ← List.append_assoc, ← List.append_assoc]
      have := cut ([Pv.i k'] ++ pvAll (zFs Vote.sc) ++ pvAll (zFs Motion.sc)) us' [] 21 (recSc k').length (by rw [List.length_append, List.length_append, lv, lm]; rfl) hlen
      rw [List.append_nil] at this
      exact this
     ·have : (recSc k').length = 0 := by simp [recSc, e1, e2, e3, e4]
      rw [this] at hlen
      rw [this, List.take_zero]
      exact (List.eq_nil_of_length_eq_zero hlen).symm
    show encL (recAt (recPv k' us')) ++ q' = s
    unfold recAt
    rw [hk, hc, encL_append, List.append_assoc, b2]
    have : encL (intA k') = numB k' := by simp [intA, encL, Atom.enc]
    rw [this]
    exact b1
def gotC (er pe : Int) (out : List UInt8) : Array Value := #[str [], .int .i64 er, .int .i64 pe, str out]
theorem ca_get {N id gf i1 i2 i3 i4 i5 sx se : Nat} {o1 o2 o3 o4 o5 o6 o7 o8 : Oper} {K : Kd} {ty : TypeId} {ts : Array TypeId} {s : List UInt8} {L : List (Nat × Value)} {A : Act} {w : World} {Q : Exit → Act → World → Prop}
  (hG : GetC gf K) (hw : K.wrap = .agg) (h1 : Is o1 (some i1) (.move (.tmp 1))) (h2 : Is o2 (some i2) (.call { callee := .value (.func gf), args := #[.tmp i1], argTypes := ts })) (h3 : Is o3 (some i3) (.move (.tmp i2))) (h4 : Is o4 (some i4) (.extract (.tmp i3) 0)) (h5 : Is o5 (some i5) (.extract (.tmp i3) 1)) (h6 : Is o6 (some sx) (.alloc ty)) (h7 : Is o7 none (.store ty (.tmp sx) (.tmp i4))) (h8 : Is o8 (some se) (.assign (.tmp i5)))
  (hz : (Tryz.prog.info? ty).map (fun i => (i.zero, i.size)) = some (some (.agg (zArr K.sc)), K.sc.length)) (chk : (freeOf [i1, i2, i3, i4, i5, sx, se] L && decide (i1 < N) && decide (i2 < N) && decide (i3 < N) && decide (i4 < N) && decide (i5 < N) && decide (sx < N) && decide (se < N) && decide (i4 ≠ i3) && decide (i5 ≠ i4) && decide (sx ≠ i4) && decide (sx ≠ i5) && decide (se ≠ sx)) = true) (m1 : (1, str s) ∈ L) (F : Fr N L A) (hs : s.length ≤ 65536)
  (K' : ∀ A' fs er xb w', Fr N ((se, .int .i64 er) :: (sx, ptr xb) :: L) A' → Below w.heap.size w w' → w.heap.size ≤ xb → Blk w' xb (fs.map Fld.val).toArray ty → lieAll w.heap.size w' fs → fitsAll K.sc fs → GetP K s fs er → Q .normal A' w') :
  (Code.region id #[o1, o2, o3, o4, o5, o6, o7, o8] false).wp Tryz.prog Q A w := by
 simp only [Bool.and_eq_true, decide_eq_true_eq] at chk
 obtain ⟨⟨⟨⟨⟨⟨⟨⟨⟨⟨⟨⟨c1, d1⟩, d2⟩, d3⟩, d4⟩, d5⟩, d6⟩, d7⟩, e1⟩, e2⟩, e3⟩, e4⟩, e5⟩ := chk
 have hsz : (Tryz.prog.info? ty).map (·.size) = some K.sc.length := by
  cases hq : Tryz.prog.info? ty with
  | none => rw [hq] at hz; cases hz
  | some i => rw [hq] at hz; simp at hz ⊢; exact hz.2
 refine wp_region_list ?_
 show wpList _ _ _ [o1, o2, o3, o4, o5, o6, o7, o8] _ _
 refine ol_move h1.2.2 (.inl h1.2.1) ?_
 rw [h1.1, F.get m1]
 have F1 := F.put (v := str s) c1 (show i1 ∈ _ by simp)
 refine ol_call h2.2.2 hG.1 h2.2.1 (vs := #[str s]) (by rw [List.map_toArray]; simp only [List.map_cons, List.map_nil]; rw [eval_put_self (by rw [F.1]; exact d1)]) (hG.2 s w hs) ?_
 rintro e w1 ⟨fs, er, rfl, bw, hl, hfit, hP⟩
 refine ⟨_, rfl, ?_⟩
 rw [h2.1, hw]
 have hlen := fits_len hfit
 have F2 := F1.put (v := .tuple #[.agg (fs.map Fld.val).toArray, .int .i64 er]) c1 (show i2 ∈ _ by simp)
 have q2 : (Act.put (A.put (some i1) (str s)) (some i2) (.tuple #[.agg (fs.map Fld.val).toArray, .int .i64 er])).eval (.tmp i2) = .tuple #[.agg (fs.map Fld.val).toArray, .int .i64 er] := eval_put_self (by rw [F1.1]; exact d2)
 generalize Act.put (A.put (some i1) (str s)) (some i2) (.tuple #[.agg (fs.map Fld.val).toArray, .int .i64 er]) = A2 at *
 refine ol_move h3.2.2 (.inl h3.2.1) ?_
 rw [h3.1, q2]
 have F3 := F2.put (v := .tuple #[.agg (fs.map Fld.val).toArray, .int .i64 er]) c1 (show i3 ∈ _ by simp)
 have q3 : (A2.put (some i3) (.tuple #[.agg (fs.map Fld.val).toArray, .int .i64 er])).eval (.tmp i3) = .tuple #[.agg (fs.map Fld.val).toArray, .int .i64 er] := eval_put_self (by rw [F2.1]; exact d3)
 generalize A2.put (some i3) (.tuple #[.agg (fs.map Fld.val).toArray, .int .i64 er]) = A3 at *
 refine ol_extract h4.2.2 h4.2.1 q3 (v := .agg (fs.map Fld.val).toArray) rfl ?_
 rw [h4.1]
 have F4 := F3.put (v := .agg (fs.map Fld.val).toArray) c1 (show i4 ∈ _ by simp)
 have q4 : (A3.put (some i4) (.agg (fs.map Fld.val).toArray)).eval (.tmp i3) = .tuple #[.agg (fs.map Fld.val).toArray, .int .i64 er] := (eval_put e1).trans q3
 have r4 : (A3.put (some i4) (.agg (fs.map Fld.val).toArray)).eval (.tmp i4) = .agg (fs.map Fld.val).toArray := eval_put_self (by rw [F3.1]; exact d4)
 generalize A3.put (some i4) (.agg (fs.map Fld.val).toArray) = A4 at *
 refine ol_extract h5.2.2 h5.2.1 q4 (v := .int .i64 er) rfl ?_
 rw [h5.1]
 have F5 := F4.put (v := .int .i64 er) c1 (show i5 ∈ _ by simp)
 have r5 : (A4.put (some i5) (.int .i64 er)).eval (.tmp i4) = .agg (fs.map Fld.val).toArray := (eval_put e2).trans r4
 have s5 : (A4.put (some i5) (.int .i64 er)).eval (.tmp i5) = .int .i64 er := eval_put_self (by rw [F4.1]; exact d5)
 generalize A4.put (some i5) (.int .i64 er) = A5 at *
 refine ol_alloc h6.2.2 h6.2.1 hz ?_
 rw [h6.1]
 have F6 := F5.put (v := ptr w1.heap.size) c1 (show sx ∈ _ by simp)
 have r6 : (A5.put (some sx) (ptr w1.heap.size)).eval (.tmp i4) = .agg (fs.map Fld.val).toArray := (eval_put e3).trans r5
 have s6 : (A5.put (some sx) (ptr w1.heap.size)).eval (.tmp i5) = .int .i64 er := (eval_put e4).trans s5
 have t6 : (A5.put (some sx) (ptr w1.heap.size)).eval (.tmp sx) = ptr w1.heap.size := eval_put_self (by rw [F5.1]; exact d6)
 show wpList _ _ _ _ (A5.put (some sx) (ptr w1.heap.size)) (w1.alloc (.cells (zArr K.sc) ty))
 generalize A5.put (some sx) (ptr w1.heap.size) = A6 at *
 have bA : Below w1.heap.size w1 (w1.alloc (.cells (zArr K.sc) ty)) := (Below.refl _ _).alloc (Nat.le_refl _) _
 have ke := Blk.new w1 (zArr K.sc) ty
 generalize w1.alloc (.cells (zArr K.sc) ty) = w2 at *
 refine ol_store h7.2.2 h7.1 h7.2.1 t6 r6 (ke.thereAt 0 _ (by show 0 + (fs.map Fld.val).toArray.size ≤ _; rw [zArr_size]; simp [hlen])) (by rw [hsz]; show _ = some (fs.map Fld.val).toArray.size; simp [hlen]) (flds_one fs) ?_
 refine ol_move h8.2.2 (.inr h8.2.1) ?_
 rw [h8.1, s6]
 have F7 : Fr N ((se, .int .i64 er) :: (sx, ptr w1.heap.size) :: L) (A6.put (some se) (.int .i64 er)) := ((F6.put (v := .int .i64 er) c1 (show se ∈ _ by simp)).add ((eval_put e5).trans t6)).add (eval_put_self (by rw [F6.1]; exact d7))
 have ke3 := ke.putCells (fs.map Fld.val) 0 _ _
 rw [putAt_all (by rw [zArr_size]; simp [hlen])] at ke3
 have b3 : But (fun k => k = w1.heap.size) w2 (w2.setCells w1.heap.size 0 (fs.map Fld.val)) := but_cells _ _ _ _
 have bz := bw.size
 have bw2 := bw.trans (bA.mono bw.size)
 refine wpList_nil (K' _ fs er w1.heap.size _ F7 (bw2.trans (b3.below bw2.size (fun k q => by omega))) bz ke3 ?_ hfit hP)
 exact fun f hf => Fld.lies_off ⟨b3.size, fun k hk hne => b3.block k hk hne⟩ f (Fld.lies_hi (Hi.of_below bA) f (hl f hf)) (Fld.lies_apart (.inr (Nat.le_refl _)) f (hl f hf))
theorem ca_getS {N id gf i1 i2 i3 i4 i5 sx se : Nat} {o1 o2 o3 o4 o5 o6 o7 : Oper} {K : Kd} {ts : Array TypeId} {s : List UInt8} {L : List (Nat × Value)} {A : Act} {w : World} {Q : Exit → Act → World → Prop}
  (hG : GetC gf K) (h1 : Is o1 (some i1) (.move (.tmp 1))) (h2 : Is o2 (some i2) (.call { callee := .value (.func gf), args := #[.tmp i1], argTypes := ts })) (h3 : Is o3 (some i3) (.move (.tmp i2))) (h4 : Is o4 (some i4) (.extract (.tmp i3) 0)) (h5 : Is o5 (some i5) (.extract (.tmp i3) 1)) (h6 : Is o6 (some sx) (.assign (.tmp i4))) (h7 : Is o7 (some se) (.assign (.tmp i5)))
  (chk : (freeOf [i1, i2] L && decide (i1 < N) && decide (i2 < N)) = true) (chk2 : (freeOf [i3, i4, i5, sx, se] L && decide (i3 < N) && decide (i4 < N) && decide (i5 < N) && decide (sx < N) && decide (se < N) && decide (i4 ≠ i3) && decide (i5 ≠ i4) && decide (sx ≠ i5) && decide (se ≠ sx)) = true) (m1 : (1, str s) ∈ L) (F : Fr N L A) (hs : s.length ≤ 65536)
  (K' : ∀ A' fs er w', Fr N ((sx, K.wrap (fs.map Fld.val).toArray) :: (se, .int .i64 er) :: L) A' → Below w.heap.size w w' → lieAll w.heap.size w' fs → fitsAll K.sc fs → GetP K s fs er → Q .normal A' w') :
  (Code.region id #[o1, o2, o3, o4, o5, o6, o7] false).wp Tryz.prog Q A w := by
 simp only [Bool.and_eq_true, decide_eq_true_eq] at chk
 obtain ⟨⟨c1, d1⟩, d2⟩ := chk
 refine wp_region_list ?_
 show wpList _ _ _ [o1, o2, o3, o4, o5, o6, o7] _ _
 refine ol_move h1.2.2 (.inl h1.2.1) ?_
 rw [h1.1, F.get m1]
 have F1 := F.put (v := str s) c1 (show i1 ∈ _ by simp)
 refine ol_call h2.2.2 hG.1 h2.2.1 (vs := #[str s]) (by rw [List.map_toArray]; simp only [List.map_cons, List.map_nil]; rw [eval_put_self (by rw [F.1]; exact d1)]) (hG.2 s w hs) ?_
 rintro e w1 ⟨fs, er, rfl, bw, hl, hfit, hP⟩
 refine ⟨_, rfl, ?_⟩
 rw [h2.1]
 have F2 := F1.put (v := .tuple #[K.wrap (fs.map Fld.val).toArray, .int .i64 er]) c1 (show i2 ∈ _ by simp)
 exact rg_two h3 h4 h5 h6 h7 chk2 F2 (eval_put_self (by rw [F1.1]; exact d2)) fun A' F' => K' A' fs er w1 F' bw hl hfit hP
theorem ca_err {N id i1 i2 se sg gb : Nat} {o1 o2 o3 : Oper} {er : Int} {ty : TypeId} {C : Array Value} {L : List (Nat × Value)} {A : Act} {w : World} {Q : Exit → Act → World → Prop}
  (h1 : Is o1 (some i1) (.move (.tmp se))) (h2 : Is o2 (some i2) (.fieldAddr 24 (.tmp sg) 1)) (h3 : Is o3 none (.store ty (.tmp i2) (.tmp i1))) (hsz : (Tryz.prog.info? ty).map (·.size) = some 1) (hoff : fldOff Tryz.prog 24 1 = some 1)
  (chk : (freeOf [i1, i2] L && decide (i1 < N) && decide (i2 < N) && decide (i2 ≠ i1)) = true) (me : (se, .int .i64 er) ∈ L) (mg : (sg, ptr gb) ∈ L) (F : Fr N L A) (k : Blk w gb C 24) (hC : C.size = 4)
  (K' : ∀ A', Fr N L A' → Q .normal A' (w.setCells gb 1 [.int .i64 er])) : (Code.region id #[o1, o2, o3] false).wp Tryz.prog Q A w := by
 simp only [Bool.and_eq_true, decide_eq_true_eq] at chk
 obtain ⟨⟨⟨c1, d1⟩, d2⟩, e1⟩ := chk
 refine wp_region_list ?_
 show wpList _ _ _ [o1, o2, o3] _ _
 refine ol_move h1.2.2 (.inl h1.2.1) ?_
 rw [h1.1, F.get me]
 have F1 := F.put (v := .int .i64 er) c1 (show i1 ∈ _ by simp)
 refine ol_fld h2.2.2 h2.2.1 (F1.get mg) hoff ?_
 rw [h2.1]
 have F2 := F1.put (v := .pointer (some ⟨gb, 1, none⟩)) c1 (show i2 ∈ _ by simp)
 refine ol_store h3.2.2 h3.1 h3.2.1 (eval_put_self (by rw [F1.1]; exact d2)) ((eval_put e1).trans (eval_put_self (by rw [F.1]; exact d1))) (k.thereAt 1 _ (by show 1 + 1 ≤ _; omega)) hsz (fun u hu => by rw [List.mem_singleton.1 (show u ∈ [Value.int .i64 er] from hu)]; rfl) ?_
 exact wpList_nil (K' _ F2)
theorem ca_put {N id pf k0 k1 k2 k3 k4 k5 k6 sg gb : Nat} {o0 o1 o2 o3 o4 o5 o6 o7 o8 : Oper} {K : Kd} {fs : List Fld} {lo : Nat} {t1 t2 : TypeId} {ts : Array TypeId} {C : Array Value} {L : List (Nat × Value)} {A : Act} {w : World} {Q : Exit → Act → World → Prop}
  (hP : PutC pf K) (h0 : o0.dst = some k0 ∧ o0.guard = none) (h1 : Is o1 (some k1) (.call { callee := .value (.func pf), args := #[.tmp k0], argTypes := ts })) (h2 : Is o2 (some k2) (.move (.tmp k1))) (h3 : Is o3 (some k3) (.extract (.tmp k2) 0)) (h4 : Is o4 (some k4) (.extract (.tmp k2) 1)) (h5 : Is o5 (some k5) (.fieldAddr 24 (.tmp sg) 3)) (h6 : Is o6 none (.store t1 (.tmp k5) (.tmp k3))) (h7 : Is o7 (some k6) (.fieldAddr 24 (.tmp sg) 2)) (h8 : Is o8 none (.store t2 (.tmp k6) (.tmp k4)))
  (s1 : (Tryz.prog.info? t1).map (·.size) = some 1) (s2 : (Tryz.prog.info? t2).map (·.size) = some 1) (f3 : fldOff Tryz.prog 24 3 = some 3) (f2 : fldOff Tryz.prog 24 2 = some 2)
  (chk : (freeOf [k0, k1, k2, k3, k4, k5, k6] L && decide (k0 < N) && decide (k1 < N) && decide (k2 < N) && decide (k3 < N) && decide (k4 < N) && decide (k5 < N) && decide (k6 < N) && decide (k3 ≠ k2) && decide (k4 ≠ k3) && decide (k5 ≠ k3) && decide (k5 ≠ k4) && decide (k6 ≠ k4)) = true) (mg : (sg, ptr gb) ∈ L) (F : Fr N L A) (h0r : (execOp A.eval o0).run Tryz.prog w = .ok (.value (K.wrap (fs.map Fld.val).toArray)) w) (fit : fitsAll K.sc fs) (hl : lieAll lo w fs) (k : Blk w gb C 24) (hC : C.size = 4)
  (K' : ∀ A' out pe w1, Fr N L A' → Below w.heap.size w w1 → PutP K (pvAll fs) out pe → Q .normal A' ((w1.setCells gb 3 [str out]).setCells gb 2 [.int .i64 pe])) : (Code.region id #[o0, o1, o2, o3, o4, o5, o6, o7, o8] false).wp Tryz.prog Q A w := by
 simp only [Bool.and_eq_true, decide_eq_true_eq] at chk
 obtain ⟨⟨⟨⟨⟨⟨⟨⟨⟨⟨⟨⟨c1, d0⟩, d1⟩, d2⟩, d3⟩, d4⟩, d5⟩, d6⟩, e1⟩, e2⟩, e3⟩, e4⟩, e5⟩ := chk
 refine wp_region_list ?_
 show wpList _ _ _ [o0, o1, o2, o3, o4, o5, o6, o7, o8] _ _
 refine ol_val h0.2 h0r ?_
 rw [h0.1]
 have F1 := F.put (v := K.wrap (fs.map Fld.val).toArray) c1 (show k0 ∈ _ by simp)
 refine ol_call h1.2.2 hP.1 h1.2.1 (vs := #[K.wrap (fs.map Fld.val).toArray]) (by rw [List.map_toArray]; simp only [List.map_cons, List.map_nil]; rw [eval_put_self (by rw [F.1]; exact d0)]) (hP.2 lo fs w fit hl) ?_
 rintro e w1 ⟨out, pe, rfl, b1, hp⟩
 refine ⟨_, rfl, ?_⟩
 rw [h1.1]
 have F2 := F1.put (v := .tuple #[str out, .int .i64 pe]) c1 (show k1 ∈ _ by simp)
 have q2 : (Act.put (A.put (some k0) (K.wrap (fs.map Fld.val).toArray)) (some k1) (.tuple #[str out, .int .i64 pe])).eval (.tmp k1) = .tuple #[str out, .int .i64 pe] := eval_put_self (by rw [F1.1]; exact d1)
 generalize Act.put (A.put (some k0) (K.wrap (fs.map Fld.val).toArray)) (some k1) (.tuple #[str out, .int .i64 pe]) = A2 at *
 refine ol_move h2.2.2 (.inl h2.2.1) ?_
 rw [h2.1, q2]
 have F3 := F2.put (v := .tuple #[str out, .int .i64 pe]) c1 (show k2 ∈ _ by simp)
 have q3 : (A2.put (some k2) (.tuple #[str out, .int .i64 pe])).eval (.tmp k2) = .tuple #[str out, .int .i64 pe] := eval_put_self (by rw [F2.1]; exact d2)
 generalize A2.put (some k2) (.tuple #[str out, .int .i64 pe]) = A3 at *
 refine ol_extract h3.2.2 h3.2.1 q3 (v := str out) rfl ?_
 rw [h3.1]
 have F4 := F3.put (v := str out) c1 (show k3 ∈ _ by simp)
 have q4 : (A3.put (some k3) (str out)).eval (.tmp k2) = .tuple #[str out, .int .i64 pe] := (eval_put e1).trans q3
 have r4 : (A3.put (some k3) (str out)).eval (.tmp k3) = str out := eval_put_self (by rw [F3.1]; exact d3)
 generalize A3.put (some k3) (str out) = A4 at *
 refine ol_extract h4.2.2 h4.2.1 q4 (v := .int .i64 pe) rfl ?_
 rw [h4.1]
 have F5 := F4.put (v := .int .i64 pe) c1 (show k4 ∈ _ by simp)
 have r5 : (A4.put (some k4) (.int .i64 pe)).eval (.tmp k3) = str out := (eval_put e2).trans r4
 have s5 : (A4.put (some k4) (.int .i64 pe)).eval (.tmp k4) = .int .i64 pe := eval_put_self (by rw [F4.1]; exact d4)
 generalize A4.put (some k4) (.int .i64 pe) = A5 at *
 refine ol_fld h5.2.2 h5.2.1 (F5.get mg) f3 ?_
 rw [h5.1]
 have F6 := F5.put (v := .pointer (some ⟨gb, 3, none⟩)) c1 (show k5 ∈ _ by simp)
 have r6 : (A5.put (some k5) (.pointer (some ⟨gb, 3, none⟩))).eval (.tmp k3) = str out := (eval_put e3).trans r5
 have s6 : (A5.put (some k5) (.pointer (some ⟨gb, 3, none⟩))).eval (.tmp k4) = .int .i64 pe := (eval_put e4).trans s5
 have t6 : (A5.put (some k5) (.pointer (some ⟨gb, 3, none⟩))).eval (.tmp k5) = .pointer (some ⟨gb, 3, none⟩) := eval_put_self (by rw [F5.1]; exact d5)
 generalize A5.put (some k5) (.pointer (some ⟨gb, 3, none⟩)) = A6 at *
 have kk := k.below b1 k.lt
 refine ol_store h6.2.2 h6.1 h6.2.1 t6 r6 (kk.thereAt 3 _ (by show 3 + 1 ≤ _; omega)) s1 (fun u hu => by rw [List.mem_singleton.1 (show u ∈ [str out] from hu)]; rfl) ?_
 have kk2 := kk.putCells [str out] 3 _ _
 show wpList _ _ _ _ _ (w1.setCells gb 3 [str out])
 refine ol_fld h7.2.2 h7.2.1 (F6.get mg) f2 ?_
 rw [h7.1]
 have F7 := F6.put (v := .pointer (some ⟨gb, 2, none⟩)) c1 (show k6 ∈ _ by simp)
 refine ol_store h8.2.2 h8.1 h8.2.1 (eval_put_self (by rw [F6.1]; exact d6)) ((eval_put e5).trans s6) (kk2.thereAt 2 _ (by rw [putAt_size]; show 2 + 1 ≤ _; omega)) s2 (fun u hu => by rw [List.mem_singleton.1 (show u ∈ [Value.int .i64 pe] from hu)]; rfl) ?_
 exact wpList_nil (K' _ out pe w1 F7 b1 hp)
end Go.Proofs.YtackcbpabjhmpaaGreat
