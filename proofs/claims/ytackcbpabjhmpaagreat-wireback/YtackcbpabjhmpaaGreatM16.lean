import Derived.Test.YtackcbpabjhmpaaGreatJA4
namespace Go.Proofs.YtackcbpabjhmpaaGreat
open Go.RowKit
set_option linter.unusedVariables false
set_option linter.unusedSimpArgs false
theorem fr_one {fn : Func} {v : Value} {N : Nat} (h : fn.ntmps = N) (h1 : 1 ≤ N) : Fr N [(0, v)] { tmps := #[v] ++ Array.replicate (fn.ntmps - (#[v] : Array Value).size) undef, defers := [] } := by
 refine ⟨by simp; omega, rfl, fun p hp => ?_⟩
 rw [List.mem_singleton.1 hp]
 simp only [Act.eval, Array.getD_eq_getD_getElem?]
 rw [Array.getElem?_append_left (by simp)]
 rfl
theorem bd_two {N idb id1 id2 ida ib se x1 x2 x3 y1 y2 y3 i1 i2 i3 i4 i5 i6 f f' k s si gb vb n off ty1 ty2 : Nat} {lty ety t : TypeId} {p1 p2 p3 q1 q2 q3 q4 r1 r2 r3 r4 o1 o2 o3 o4 o5 o6 o7 : Oper} {ts ts' : Array TypeId} {xs ys : List Value} {wr wr' : Array Value → Value} {L : List (Nat × Value)} {one two : List Sc} {B s0 : List UInt8} {E1 : Int} {u : World} {c0 : Array Value}
  (hC : RdC f xs wr one) (hC' : RdC f' ys wr' two) (g1 : Is p1 (some ib) (.build ety #[])) (g2 : Is p2 (some se) (.alloc ety)) (g3 : Is p3 none (.store ety (.tmp se) (.tmp ib)))
  (a1 : Is q1 (some x1) (.move (.tmp 0))) (a2 : Is q2 (some x2) (.call { callee := .value (.func f), args := (.tmp x1 :: xs.map .const).toArray, argTypes := ts })) (a3 : Is q3 (some x3) (.fieldAddr ety (.tmp se) 0)) (a4 : Is q4 none (.store ty1 (.tmp x3) (.tmp x2)))
  (b1 : Is r1 (some y1) (.move (.tmp 0))) (b2 : Is r2 (some y2) (.call { callee := .value (.func f'), args := (.tmp y1 :: ys.map .const).toArray, argTypes := ts' })) (b3 : Is r3 (some y3) (.fieldAddr ety (.tmp se) 1)) (b4 : Is r4 none (.store ty2 (.tmp y3) (.tmp y2)))
  (h1 : Is o1 (some i1) (.fieldAddr s (.tmp 3) k)) (h2 : Is o2 (some i2) (.load lty (.tmp i1))) (h3 : Is o3 (some i3) (.load ety (.tmp se))) (h4 : Is o4 (some i4) (.buildSlice lty 1 #[(0, .tmp i3)])) (h5 : Is o5 (some i5) (.call { callee := .builtin .append, args := #[.tmp i2, .tmp i4], argTypes := #[lty, lty] })) (h6 : Is o6 (some i6) (.fieldAddr s (.tmp 3) k)) (h7 : Is o7 none (.store lty (.tmp i6) (.tmp i5))) (ht5 : o5.type = lty)
  (chk : ∀ xv, (freeOf [ib, se] ((si, xv) :: L) && decide (ib < N) && decide (se < N) && decide (se ≠ ib)) = true) (chkA : ∀ xv V, (freeOf [x1, x2, x3] ((se, V) :: (si, xv) :: L) && decide (x1 < N) && decide (x2 < N) && decide (x3 < N) && decide (x3 ≠ x2)) = true) (chkB : ∀ xv V, (freeOf [y1, y2, y3] ((se, V) :: (si, xv) :: L) && decide (y1 < N) && decide (y2 < N) && decide (y3 < N) && decide (y3 ≠ y2)) = true)
  (chk2 : ∀ xv V, (freeOf [i1, i2, i3, i4, i5, i6] ((se, V) :: (si, xv) :: L) && decide (i1 < N) && decide (i2 < N) && decide (i3 < N) && decide (i4 < N) && decide (i5 < N) && decide (i6 < N) && decide (i3 ≠ i2) && decide (i4 ≠ i2) && decide (i6 ≠ i5)) = true)
  (hbt : Tryz.prog.built ety [] = some (zArr (one ++ two))) (hoA : fldOff Tryz.prog ety 0 = some 0) (hoB : fldOff Tryz.prog ety 1 = some one.length) (hs1 : (Tryz.prog.info? ty1).map (·.size) = some one.length) (hs2 : (Tryz.prog.info? ty2).map (·.size) = some two.length)
  (hoff : fldOff Tryz.prog s k = some off) (hu : Tryz.prog.underlying lty = some (.slice ety)) (hi : (Tryz.prog.info? ety).map (fun i => (i.zero, i.size, decide (i.bytes ≤ 1000))) = some (some (.agg (zArr (one ++ two))), (one ++ two).length, true)) (hrt : rowT Tryz.prog ety = true) (hels : 0 < (one ++ two).length ∧ (one ++ two).length ≤ 1000) (hls : (Tryz.prog.info? lty).map (·.size) = some 1)
  (m0 : (0, ptr gb) ∈ L) (mv : (3, ptr vb) ∈ L) (hn : n ≤ 1000000) (hgb : gb < u.heap.size) (hvb : vb < u.heap.size) (hgv : gb ≠ vb) (hc0 : off < c0.size) (hL : B.length ≤ 1099511627000) :
  Bodies (Code.seq (Code.region idb #[p1, p2, p3] false) (Code.seq (Code.region id1 #[q1, q2, q3, q4] false) (Code.seq (Code.region id2 #[r1, r2, r3, r4] false) (Code.region ida #[o1, o2, o3, o4, o5, o6, o7] false)))) N L si gb vb B (one ++ two) ety n s0 E1 c0 t off u := by
 intro A w v es a E xv Q F hlt H K
 have chk1 := chk xv
 simp only [Bool.and_eq_true, decide_eq_true_eq] at chk1
 obtain ⟨⟨⟨f1, d1⟩, d2⟩, d3⟩ := chk1
 obtain ⟨d, hue, hde⟩ := rowT_out hrt
 obtain ⟨ii, hi1, hi2, hi3, hi4⟩ := info_parts3 hi
 have hsz : (Tryz.prog.info? ety).map (·.size) = some (one ++ two).length := by rw [hi1, Option.map_some, hi3]
 have hone : ∀ x ∈ (zArr (one ++ two)).toList, x.oneCell' = true := fun x hx => by
  simp only [zArr, List.toList_toArray, List.mem_map] at hx
  obtain ⟨c, _, rfl⟩ := hx
  cases c <;> rfl
 refine wp_seq (wp_region_list ?_)
 show wpList _ _ _ [p1, p2, p3] _ _
 refine ol_build g1.2.2 g1.2.1 (Z := zArr (one ++ two)) (by simpa using hbt) ?_
 rw [g1.1]
 have F1 := F.put (v := .agg (zArr (one ++ two))) f1 (show ib ∈ _ by simp)
 have q1 : (A.put (some ib) (.agg (zArr (one ++ two)))).eval (.tmp ib) = .agg (zArr (one ++ two)) := eval_put_self (by rw [F.1]; exact d1)
 generalize A.put (some ib) (.agg (zArr (one ++ two))) = A1 at *
 refine ol_alloc g2.2.2 g2.2.1 (z := .agg (zArr (one ++ two))) (n := (one ++ two).length) (by rw [hi1, Option.map_some, hi2, hi3]) ?_
 rw [g2.1]
 have F2 := (F1.put (v := ptr w.heap.size) f1 (show se ∈ _ by simp)).add (eval_put_self (by rw [F1.1]; exact d2))
 have q2 : (A1.put (some se) (ptr w.heap.size)).eval (.tmp ib) = .agg (zArr (one ++ two)) := (eval_put d3).trans q1
 have q2' : (A1.put (some se) (ptr w.heap.size)).eval (.tmp se) = ptr w.heap.size := eval_put_self (by rw [F1.1]; exact d2)
 show wpList _ _ _ _ (A1.put (some se) (ptr w.heap.size)) (w.alloc (.cells (zArr (one ++ two)) ety))
 generalize A1.put (some se) (ptr w.heap.size) = A2 at *
 have bA : Below w.heap.size w (w.alloc (.cells (zArr (one ++ two)) ety)) := (Below.refl _ _).alloc (Nat.le_refl _) _
 have ke := Blk.new w (zArr (one ++ two)) ety
 generalize w.alloc (.cells (zArr (one ++ two)) ety) = w1 at *
 refine ol_store g3.2.2 g3.1 g3.2.1 q2' q2 (ke.thereAt 0 _ (by show 0 + (zArr (one ++ two)).size ≤ _; omega)) (by rw [hsz]; show _ = some (zArr (one ++ two)).size; rw [zArr_size]) hone ?_
 refine wpList_nil ?_
 show Code.wp _ _ _ _ (w1.setCells w.heap.size 0 (zArr (one ++ two)).toList)
 have ke3 := ke.putCells (zArr (one ++ two)).toList 0 _ _
 rw [putAt_all (by simp), Array.toArray_toList] at ke3
 have b3x : But (fun k => k = w.heap.size) w1 (w1.setCells w.heap.size 0 (zArr (one ++ two)).toList) := but_cells _ _ _ _
 generalize w1.setCells w.heap.size 0 (zArr (one ++ two)).toList = w2 at *
 have hgw : gb < w.heap.size := Blk.lt H.g
 have S0 : Sf gb w.heap.size B (B.drop a) E w (zArr (one ++ two)) ety [] [] a E w2 := ⟨b3x.blk (Gt.below H.g bA) (by omega), ke3, hgw, Nat.le_refl _, (But.of_below bA).trans_new b3x (fun k hk q => by omega), by simp [fitsAll], lieAll.nil _ _, PgS.nil E H.pg.1⟩
 refine wp_seq (st_field (done := []) hC a1 a2 a3 a4 (chkA xv (ptr w.heap.size)) hoA hs1 (by rw [zArr_size]; simp) (by simp [m0]) (by simp) F2 S0 hL ?_)
 intro A3 gs3 a3' E3 w3 F3 _ S3
 show Code.wp _ _ _ _ _
 refine wp_seq (st_field (done := [] ++ one) hC' b1 b2 b3 b4 (chkB xv (ptr w.heap.size)) hoB hs2 (by rw [zArr_size]; simp) (by simp [m0]) (by simp) F3 S3 hL ?_)
 intro A4 gs4 a4' E4 w4 F4 _ S4
 show Code.wp _ _ _ _ _
 have S4' : Sf gb w.heap.size B (B.drop a) E w (zArr (one ++ two)) ety (one ++ two) (gs3 ++ gs4) a4' E4 w4 := S4
 have hlen := fits_len S4'.fit
 have kx : Blk w4 w.heap.size ((gs3 ++ gs4).map Fld.val).toArray ety := by
  have q := S4'.x
  rw [putAt_all (by rw [zArr_size, List.length_map, hlen])] at q
  exact q
 refine st_app h1 h2 ⟨h3.1, h3.2.2⟩ h4 h5 h6 h7 ht5 (chk2 xv (ptr w.heap.size)) hoff hu hi (zArr_size _) hels hls (by simp [mv]) F4 (V := .agg ((gs3 ++ gs4).map Fld.val).toArray) (fun A' F' => by
  unfold execOp
  rw [h3.2.1]
  simp only [F'.get (by simp : (se, ptr w.heap.size) ∈ _)]
  have := run_loadAt_mid (P := Tryz.prog) w4 w.heap.size 0 ety ((gs3 ++ gs4).map Fld.val) d kx.range hue hde (by rw [hsz, List.length_map, hlen])
  simp only [ptr, Sem.run_bind, this]
  rfl) rfl H hlt hn hgb hvb hgv hc0 S4'.g S4'.but (S4'.lie.mono (by omega)) ⟨S4'.pg, S4'.fit⟩ ?_
 intro A' v' w' F' H'
 exact K A' v' (gs3 ++ gs4) a4' E4 w' F'.tl H'
theorem Sf.ne {gb vb : Nat} {B s0 : List UInt8} {E0 : Int} {w0 : World} {cs : Array Value} {t : TypeId} {done : List Sc} {fs : List Fld} {a : Nat} {E : Int} {w : World} (h : Sf gb vb B s0 E0 w0 cs t done fs a E w) : gb < w0.heap.size ∧ w0.heap.size ≤ vb := ⟨h.old, h.new⟩
set_option maxRecDepth 4000 in
set_option maxHeartbeats 3200000 in
theorem gvote_c : RdC 51 [] .agg Vote.sc := by
 refine ⟨by kernel_rfl, fun _ _ => rfl, fun gb B a E w k ha hL => ?_⟩
 refine calls_of_wp Tryz.func51 rfl ?_
 refine st_open (SC := Vote.sc) (I rfl) (I rfl) (I rfl) (I rfl) rfl (by kernel_rfl) (by kernel_rfl) (fr_one (v := ptr gb) Tryz.ntmps51 (by decide)) k ha ?_
 have hg : gb < w.heap.size := Blk.lt k
 clear k ha
 intro A w1 F S R
 refine wp_seq (st_field gnum_c (I rfl) (I rfl) (I rfl) (I rfl) rfl (by kernel_rfl) (by kernel_rfl) (by decide) (by simp) (by simp) F S hL ?_)
 clear F
 intro A gs a1 E1 w2 F b S2
 have R := b.blk R (by omega)
 clear b S
 have S := S2
 clear S2
 refine wp_seq (st_field gnum_c (I rfl) (I rfl) (I rfl) (I rfl) rfl (by kernel_rfl) (by kernel_rfl) (by decide) (by simp) (by simp) F S hL ?_)
 clear F
 intro A gs a1 E1 w2 F b S2
 have R := b.blk R (by omega)
 clear b S
 have S := S2
 clear S2
 refine wp_seq (st_field gnum_c (I rfl) (I rfl) (I rfl) (I rfl) rfl (by kernel_rfl) (by kernel_rfl) (by decide) (by simp) (by simp) F S hL ?_)
 clear F
 intro A gs a1 E1 w2 F b S2
 have R := b.blk R (by omega)
 clear b S
 have S := S2
 clear S2
 refine wp_seq (st_field gflag_c (I rfl) (I rfl) (I rfl) (I rfl) rfl (by kernel_rfl) (by kernel_rfl) (by decide) (by simp) (by simp) F S hL ?_)
 clear F
 intro A gs a1 E1 w2 F b S2
 have R := b.blk R (by omega)
 clear b S
 have S := S2
 clear S2
 refine wp_seq (st_field gdig_c (I rfl) (I rfl) (I rfl) (I rfl) rfl (by kernel_rfl) (by kernel_rfl) (by decide) (by simp) (by simp) F S hL ?_)
 clear F
 intro A gs a1 E1 w2 F b S2
 have R := b.blk R (by omega)
 clear b S
 have S := S2
 clear S2
 refine wp_seq (st_field gnum_c (I rfl) (I rfl) (I rfl) (I rfl) rfl (by kernel_rfl) (by kernel_rfl) (by decide) (by simp) (by simp) F S hL ?_)
 clear F
 intro A gs a1 E1 w2 F b S2
 have R := b.blk R (by omega)
 clear b S
 have S := S2
 clear S2
 exact st_close (SC := Vote.sc) (I rfl) (I rfl) Tryz.results51 (by kernel_rfl) (by kernel_rfl) (zArr_size _) rfl (by simp) (by simp) F S R (by omega)
set_option maxRecDepth 4000 in
set_option maxHeartbeats 3200000 in
theorem gheader_c : RdC 69 [] .agg Header.sc := by
 refine ⟨by kernel_rfl, fun _ _ => rfl, fun gb B a E w k ha hL => ?_⟩
 refine calls_of_wp Tryz.func69 rfl ?_
 refine st_open (SC := Header.sc) (I rfl) (I rfl) (I rfl) (I rfl) rfl (by kernel_rfl) (by kernel_rfl) (fr_one (v := ptr gb) Tryz.ntmps69 (by decide)) k ha ?_
 have hg : gb < w.heap.size := Blk.lt k
 clear k ha
 intro A w1 F S R
 refine wp_seq (st_field gnum_c (I rfl) (I rfl) (I rfl) (I rfl) rfl (by kernel_rfl) (by kernel_rfl) (by decide) (by simp) (by simp) F S hL ?_)
 clear F
 intro A gs a1 E1 w2 F b S2
 have R := b.blk R (by omega)
 clear b S
 have S := S2
 clear S2
 refine wp_seq (st_field gnum_c (I rfl) (I rfl) (I rfl) (I rfl) rfl (by kernel_rfl) (by kernel_rfl) (by decide) (by simp) (by simp) F S hL ?_)
 clear F
 intro A gs a1 E1 w2 F b S2
 have R := b.blk R (by omega)
 clear b S
 have S := S2
 clear S2
 refine wp_seq (st_field gdig_c (I rfl) (I rfl) (I rfl) (I rfl) rfl (by kernel_rfl) (by kernel_rfl) (by decide) (by simp) (by simp) F S hL ?_)
 clear F
 intro A gs a1 E1 w2 F b S2
 have R := b.blk R (by omega)
 clear b S
 have S := S2
 clear S2
 refine wp_seq (st_field gdig_c (I rfl) (I rfl) (I rfl) (I rfl) rfl (by kernel_rfl) (by kernel_rfl) (by decide) (by simp) (by simp) F S hL ?_)
 clear F
 intro A gs a1 E1 w2 F b S2
 have R := b.blk R (by omega)
 clear b S
 have S := S2
 clear S2
 refine wp_seq (st_field gdig_c (I rfl) (I rfl) (I rfl) (I rfl) rfl (by kernel_rfl) (by kernel_rfl) (by decide) (by simp) (by simp) F S hL ?_)
 clear F
 intro A gs a1 E1 w2 F b S2
 have R := b.blk R (by omega)
 clear b S
 have S := S2
 clear S2
 refine wp_seq (st_field gdig_c (I rfl) (I rfl) (I rfl) (I rfl) rfl (by kernel_rfl) (by kernel_rfl) (by decide) (by simp) (by simp) F S hL ?_)
 clear F
 intro A gs a1 E1 w2 F b S2
 have R := b.blk R (by omega)
 clear b S
 have S := S2
 clear S2
 refine wp_seq (st_field gdig_c (I rfl) (I rfl) (I rfl) (I rfl) rfl (by kernel_rfl) (by kernel_rfl) (by decide) (by simp) (by simp) F S hL ?_)
 clear F
 intro A gs a1 E1 w2 F b S2
 have R := b.blk R (by omega)
 clear b S
 have S := S2
 clear S2
 refine wp_seq (st_field gdig_c (I rfl) (I rfl) (I rfl) (I rfl) rfl (by kernel_rfl) (by kernel_rfl) (by decide) (by simp) (by simp) F S hL ?_)
 clear F
 intro A gs a1 E1 w2 F b S2
 have R := b.blk R (by omega)
 clear b S
 have S := S2
 clear S2
 refine wp_seq (st_field gnum_c (I rfl) (I rfl) (I rfl) (I rfl) rfl (by kernel_rfl) (by kernel_rfl) (by decide) (by simp) (by simp) F S hL ?_)
 clear F
 intro A gs a1 E1 w2 F b S2
 have R := b.blk R (by omega)
 clear b S
 have S := S2
 clear S2
 exact st_close (SC := Header.sc) (I rfl) (I rfl) Tryz.results69 (by kernel_rfl) (by kernel_rfl) (zArr_size _) rfl (by simp) (by simp) F S R (by omega)
set_option maxRecDepth 4000 in
set_option maxHeartbeats 3200000 in
theorem gaccount_c : RdC 194 [] .agg accSc := by
 refine ⟨by kernel_rfl, fun _ _ => rfl, fun gb B a E w k ha hL => ?_⟩
 refine calls_of_wp Tryz.func194 rfl ?_
 refine st_open (SC := accSc) (I rfl) (I rfl) (I rfl) (I rfl) rfl (by kernel_rfl) (by kernel_rfl) (fr_one (v := ptr gb) Tryz.ntmps194 (by decide)) k ha ?_
 have hg : gb < w.heap.size := Blk.lt k
 clear k ha
 intro A w1 F S R
 refine wp_seq (st_field gnum_c (I rfl) (I rfl) (I rfl) (I rfl) rfl (by kernel_rfl) (by kernel_rfl) (by decide) (by simp) (by simp) F S hL ?_)
 clear F
 intro A gs a1 E1 w2 F b S2
 have R := b.blk R (by omega)
 clear b S
 have S := S2
 clear S2
 refine wp_seq (st_field gnum_c (I rfl) (I rfl) (I rfl) (I rfl) rfl (by kernel_rfl) (by kernel_rfl) (by decide) (by simp) (by simp) F S hL ?_)
 clear F
 intro A gs a1 E1 w2 F b S2
 have R := b.blk R (by omega)
 clear b S
 have S := S2
 clear S2
 refine wp_seq (st_field gnum_c (I rfl) (I rfl) (I rfl) (I rfl) rfl (by kernel_rfl) (by kernel_rfl) (by decide) (by simp) (by simp) F S hL ?_)
 clear F
 intro A gs a1 E1 w2 F b S2
 have R := b.blk R (by omega)
 clear b S
 have S := S2
 clear S2
 refine wp_seq (st_field gnum_c (I rfl) (I rfl) (I rfl) (I rfl) rfl (by kernel_rfl) (by kernel_rfl) (by decide) (by simp) (by simp) F S hL ?_)
 clear F
 intro A gs a1 E1 w2 F b S2
 have R := b.blk R (by omega)
 clear b S
 have S := S2
 clear S2
 refine wp_seq (st_field gnum_c (I rfl) (I rfl) (I rfl) (I rfl) rfl (by kernel_rfl) (by kernel_rfl) (by decide) (by simp) (by simp) F S hL ?_)
 clear F
 intro A gs a1 E1 w2 F b S2
 have R := b.blk R (by omega)
 clear b S
 have S := S2
 clear S2
 refine wp_seq (st_field gnum_c (I rfl) (I rfl) (I rfl) (I rfl) rfl (by kernel_rfl) (by kernel_rfl) (by decide) (by simp) (by simp) F S hL ?_)
 clear F
 intro A gs a1 E1 w2 F b S2
 have R := b.blk R (by omega)
 clear b S
 have S := S2
 clear S2
 refine wp_seq (st_field gflag_c (I rfl) (I rfl) (I rfl) (I rfl) rfl (by kernel_rfl) (by kernel_rfl) (by decide) (by simp) (by simp) F S hL ?_)
 clear F
 intro A gs a1 E1 w2 F b S2
 have R := b.blk R (by omega)
 clear b S
 have S := S2
 clear S2
 exact st_close (SC := accSc) (I rfl) (I rfl) Tryz.results194 (by kernel_rfl) (by kernel_rfl) (zArr_size _) rfl (by simp) (by simp) F S R (by omega)
set_option maxRecDepth 4000 in
set_option maxHeartbeats 3200000 in
theorem gguilt_c : RdC 87 [] .agg Guilt.sc := by
 refine ⟨by kernel_rfl, fun _ _ => rfl, fun gb B a E w k ha hL => ?_⟩
 refine calls_of_wp Tryz.func87 rfl ?_
 refine st_open (SC := Guilt.sc) (I rfl) (I rfl) (I rfl) (I rfl) rfl (by kernel_rfl) (by kernel_rfl) (fr_one (v := ptr gb) Tryz.ntmps87 (by decide)) k ha ?_
 have hg : gb < w.heap.size := Blk.lt k
 clear k ha
 intro A w1 F S R
 refine wp_seq (st_field gvote_c (I rfl) (I rfl) (I rfl) (I rfl) rfl (by kernel_rfl) (by kernel_rfl) (by decide) (by simp) (by simp) F S hL ?_)
 clear F
 intro A gs a1 E1 w2 F b S2
 have R := b.blk R (by omega)
 clear b S
 have S := S2
 clear S2
 refine wp_seq (st_field gvote_c (I rfl) (I rfl) (I rfl) (I rfl) rfl (by kernel_rfl) (by kernel_rfl) (by decide) (by simp) (by simp) F S hL ?_)
 clear F
 intro A gs a1 E1 w2 F b S2
 have R := b.blk R (by omega)
 clear b S
 have S := S2
 clear S2
 exact st_close (SC := Guilt.sc) (I rfl) (I rfl) Tryz.results87 (by kernel_rfl) (by kernel_rfl) (zArr_size _) rfl (by simp) (by simp) F S R (by omega)
set_option maxRecDepth 4000 in
set_option maxHeartbeats 3200000 in
theorem gcert_c : RdC 57 [] .agg Cert.sc := by
 refine ⟨by kernel_rfl, fun _ _ => rfl, fun gb B a E w k ha hL => ?_⟩
 refine calls_of_wp Tryz.func57 rfl ?_
 refine st_open (SC := Cert.sc) (I rfl) (I rfl) (I rfl) (I rfl) rfl (by kernel_rfl) (by kernel_rfl) (fr_one (v := ptr gb) Tryz.ntmps57 (by decide)) k ha ?_
 have hg : gb < w.heap.size := Blk.lt k
 clear k ha
 intro A w1 F S R
 refine wp_seq (st_field gnum_c (I rfl) (I rfl) (I rfl) (I rfl) rfl (by kernel_rfl) (by kernel_rfl) (by decide) (by simp) (by simp) F S hL ?_)
 clear F
 intro A gs a1 E1 w2 F b S2
 have R := b.blk R (by omega)
 clear b S
 have S := S2
 clear S2
 refine wp_seq (st_field gnum_c (I rfl) (I rfl) (I rfl) (I rfl) rfl (by kernel_rfl) (by kernel_rfl) (by decide) (by simp) (by simp) F S hL ?_)
 clear F
 intro A gs a1 E1 w2 F b S2
 have R := b.blk R (by omega)
 clear b S
 have S := S2
 clear S2
 refine wp_seq (st_field gnum_c (I rfl) (I rfl) (I rfl) (I rfl) rfl (by kernel_rfl) (by kernel_rfl) (by decide) (by simp) (by simp) F S hL ?_)
 clear F
 intro A gs a1 E1 w2 F b S2
 have R := b.blk R (by omega)
 clear b S
 have S := S2
 clear S2
 refine wp_seq (st_field gflag_c (I rfl) (I rfl) (I rfl) (I rfl) rfl (by kernel_rfl) (by kernel_rfl) (by decide) (by simp) (by simp) F S hL ?_)
 clear F
 intro A gs a1 E1 w2 F b S2
 have R := b.blk R (by omega)
 clear b S
 have S := S2
 clear S2
 refine wp_seq (st_field gdig_c (I rfl) (I rfl) (I rfl) (I rfl) rfl (by kernel_rfl) (by kernel_rfl) (by decide) (by simp) (by simp) F S hL ?_)
 clear F
 intro A gs a1 E1 w2 F b S2
 have R := b.blk R (by omega)
 clear b S
 have S := S2
 clear S2
 refine st_list (m := 7) (els := [numC]) (by decide) (fun n A w k a E Q F g K => ts_plain (k := k) (n := n) (I rfl) (I rfl) (I rfl) rfl (by simp) (by simp) F fun A' F' h => K A' _ F' h (fun q => by simpa using q) (fun q => .inl (by simpa using q))) (fun n u a1 E1 h0 hm hu1 hu2 hne => bd_cell (ety := 3) gnum_c (I rfl) (I rfl) (I rfl) (I rfl) (I rfl) (I rfl) (I rfl) (I rfl) (I rfl) (I rfl) rfl (fun _ => rfl) (fun _ _ => rfl) (by kernel_rfl) (by kernel_rfl) (by kernel_rfl) rfl (by decide) (by kernel_rfl) (by simp) (by simp) (by omega) hu1 hu2 hne (by rw [putAt_size, zArr_size]; decide) hL) (I rfl) (I rfl) (I rfl) (I rfl) (I rfl) (I rfl) (I rfl) rfl rfl (by simp) (by decide) F S hL ?_
 clear F
 intro A la lc es a1 E1 w2 F b S2
 have R := b.blk R (by omega)
 clear b S
 have S := S2
 clear S2
 exact st_close (SC := Cert.sc) (I rfl) (I rfl) Tryz.results57 (by kernel_rfl) (by kernel_rfl) (zArr_size _) rfl (by simp) (by simp) F S R (by omega)
set_option maxRecDepth 4000 in
set_option maxHeartbeats 3200000 in
theorem gproof_c : RdC 75 [] .agg Proof.sc := by
 refine ⟨by kernel_rfl, fun _ _ => rfl, fun gb B a E w k ha hL => ?_⟩
 refine calls_of_wp Tryz.func75 rfl ?_
 refine st_open (SC := Proof.sc) (I rfl) (I rfl) (I rfl) (I rfl) rfl (by kernel_rfl) (by kernel_rfl) (fr_one (v := ptr gb) Tryz.ntmps75 (by decide)) k ha ?_
 have hg : gb < w.heap.size := Blk.lt k
 clear k ha
 intro A w1 F S R
 refine st_list (m := 288) (els := Turn.sc) (by decide) (fun n A w k a E Q F g K => ts_guard (k := k) (n := n) (I rfl) (I rfl) (I rfl) (I rfl) (I rfl) (I rfl) (I rfl) (I rfl) (I rfl) (I rfl) rfl Tryz.underlying22 rfl (by kernel_rfl) (by simp) (by simp) (by simp) F g fun A' F' h => K A' _ F' h (fun q => by simp at q; exact q.1) (fun q => by simp at q; by_cases h : n ≤ k; exact .inl h; exact .inr (q (by omega)))) (fun n u a1 E1 h0 hm hu1 hu2 hne => bd_two (gupTo_c 287 (by decide)) gdig_c (I rfl) (I rfl) (I rfl) (I rfl) (I rfl) (I rfl) (I rfl) (I rfl) (I rfl) (I rfl) (I rfl) (I rfl) (I rfl) (I rfl) (I rfl) (I rfl) (I rfl) (I rfl) rfl (fun _ => rfl) (fun _ _ => rfl) (fun _ _ => rfl) (fun _ _ => rfl) (by kernel_rfl) (by kernel_rfl) (by kernel_rfl) (by kernel_rfl) (by kernel_rfl) (by kernel_rfl) (by kernel_rfl) (by kernel_rfl) (by kernel_rfl) (by decide) (by kernel_rfl) (by simp) (by simp) (by omega) hu1 hu2 hne (by rw [putAt_size, zArr_size]; decide) hL) (I rfl) (I rfl) (I rfl) (I rfl) (I rfl) (I rfl) (I rfl) rfl rfl (by simp) (by decide) F S hL ?_
 clear F
 intro A la lc es a1 E1 w2 F b S2
 have R := b.blk R (by omega)
 clear b S
 have S := S2
 clear S2
 refine wp_seq (st_field gflag_c (I rfl) (I rfl) (I rfl) (I rfl) rfl (by kernel_rfl) (by kernel_rfl) (by decide) (by simp) (by simp) F S hL ?_)
 clear F
 intro A gs a1 E1 w2 F b S2
 have R := b.blk R (by omega)
 clear b S
 have S := S2
 clear S2
 refine wp_seq (st_field (gtext_c 32 (by decide)) (I rfl) (I rfl) (I rfl) (I rfl) rfl (by kernel_rfl) (by kernel_rfl) (by decide) (by simp) (by simp) F S hL ?_)
 clear F
 intro A gs a1 E1 w2 F b S2
 have R := b.blk R (by omega)
 clear b S
 have S := S2
 clear S2
 refine wp_seq (st_field (gtext_c 4096 (by decide)) (I rfl) (I rfl) (I rfl) (I rfl) rfl (by kernel_rfl) (by kernel_rfl) (by decide) (by simp) (by simp) F S hL ?_)
 clear F
 intro A gs a1 E1 w2 F b S2
 have R := b.blk R (by omega)
 clear b S
 have S := S2
 clear S2
 exact st_close (SC := Proof.sc) (I rfl) (I rfl) Tryz.results75 (by kernel_rfl) (by kernel_rfl) (zArr_size _) rfl (by simp) (by simp) F S R (by omega)
set_option maxRecDepth 4000 in
set_option maxHeartbeats 3200000 in
theorem gview_c : RdC 205 [] .agg viewSc := by
 refine ⟨by kernel_rfl, fun _ _ => rfl, fun gb B a E w k ha hL => ?_⟩
 refine calls_of_wp Tryz.func205 rfl ?_
 refine st_open (SC := viewSc) (I rfl) (I rfl) (I rfl) (I rfl) rfl (by kernel_rfl) (by kernel_rfl) (fr_one (v := ptr gb) Tryz.ntmps205 (by decide)) k ha ?_
 have hg : gb < w.heap.size := Blk.lt k
 clear k ha
 intro A w1 F S R
 refine wp_seq (st_field gnum_c (I rfl) (I rfl) (I rfl) (I rfl) rfl (by kernel_rfl) (by kernel_rfl) (by decide) (by simp) (by simp) F S hL ?_)
 clear F
 intro A gs a1 E1 w2 F b S2
 have R := b.blk R (by omega)
 clear b S
 have S := S2
 clear S2
 refine wp_seq (st_field gnum_c (I rfl) (I rfl) (I rfl) (I rfl) rfl (by kernel_rfl) (by kernel_rfl) (by decide) (by simp) (by simp) F S hL ?_)
 clear F
 intro A gs a1 E1 w2 F b S2
 have R := b.blk R (by omega)
 clear b S
 have S := S2
 clear S2
 refine wp_seq (st_field gnum_c (I rfl) (I rfl) (I rfl) (I rfl) rfl (by kernel_rfl) (by kernel_rfl) (by decide) (by simp) (by simp) F S hL ?_)
 clear F
 intro A gs a1 E1 w2 F b S2
 have R := b.blk R (by omega)
 clear b S
 have S := S2
 clear S2
 refine wp_seq (st_field gnum_c (I rfl) (I rfl) (I rfl) (I rfl) rfl (by kernel_rfl) (by kernel_rfl) (by decide) (by simp) (by simp) F S hL ?_)
 clear F
 intro A gs a1 E1 w2 F b S2
 have R := b.blk R (by omega)
 clear b S
 have S := S2
 clear S2
 refine wp_seq (st_field gdig_c (I rfl) (I rfl) (I rfl) (I rfl) rfl (by kernel_rfl) (by kernel_rfl) (by decide) (by simp) (by simp) F S hL ?_)
 clear F
 intro A gs a1 E1 w2 F b S2
 have R := b.blk R (by omega)
 clear b S
 have S := S2
 clear S2
 refine wp_seq (st_field gbench_c (I rfl) (I rfl) (I rfl) (I rfl) rfl (by kernel_rfl) (by kernel_rfl) (by decide) (by simp) (by simp) F S hL ?_)
 clear F
 intro A gs a1 E1 w2 F b S2
 have R := b.blk R (by omega)
 clear b S
 have S := S2
 clear S2
 exact st_close (SC := viewSc) (I rfl) (I rfl) Tryz.results205 (by kernel_rfl) (by kernel_rfl) (zArr_size _) rfl (by simp) (by simp) F S R (by omega)
end Go.Proofs.YtackcbpabjhmpaaGreat
