import Derived.Test.YtackcbpabjhmpaaGreatJL3
namespace Go.Proofs.YtackcbpabjhmpaaGreat
open Go.RowKit
set_option linter.unusedVariables false
set_option linter.unusedSimpArgs false
def plainF : Fld → Bool
 | .l _ _ _ => false
 | _ => true
theorem pv_inj : ∀ (fs gs : List Fld), gs.all plainF = true → pvAll fs = pvAll gs → fs = gs
 | [], [], _, _ => rfl
 | [], g :: gs, _, h => by cases h
 | f :: fs, [], _, h => by cases h
 | f :: fs, g :: gs, hp, h => by
  rw [List.all_cons, Bool.and_eq_true] at hp
  simp only [pvAll] at h
  injection h with h1 h2
  rw [pv_inj fs gs hp.2 h2]
  cases g with
  | l a b c => cases hp.1
  | i n => cases f <;> simp_all [Fld.pv]
  | d n => cases f <;> simp_all [Fld.pv]
  | b n => cases f <;> simp_all [Fld.pv]
  | s n => cases f <;> simp_all [Fld.pv]
theorem acc_neq (x : Acc) (a b : Operand) (w : World) : (do eqGuard .neq 163 a b (.agg ((Acc.flds x).map Fld.val).toArray) (.agg ((Acc.flds x).map Fld.val).toArray); binOp .neq 163 (.agg ((Acc.flds x).map Fld.val).toArray) (.agg ((Acc.flds x).map Fld.val).toArray) : Sem Value).run Tryz.prog w = .ok (.bool false) w := by
 rw [← Acc.vals]
 simp [go_sem]
theorem par_neq (x : Par) (a b : Operand) (w : World) : (do eqGuard .neq 168 a b (.agg ((Par.flds x).map Fld.val).toArray) (.agg ((Par.flds x).map Fld.val).toArray); binOp .neq 168 (.agg ((Par.flds x).map Fld.val).toArray) (.agg ((Par.flds x).map Fld.val).toArray) : Sem Value).run Tryz.prog w = .ok (.bool false) w := by
 rw [← Par.vals]
 simp [go_sem]
theorem gotC_one (er pe : Int) (out : List UInt8) : ∀ u ∈ (gotC er pe out).toList, u.oneCell' = true := by
 intro u hu
 simp [gotC] at hu
 rcases hu with rfl | rfl | rfl | rfl <;> rfl
def lastOf (fn : Func) : Code := match fn.body with | some (.seq _ (.seq _ (.seq _ (.seq _ c)))) => c | _ => .skip
set_option maxRecDepth 8000 in
set_option maxHeartbeats 6400000 in
theorem lpairs_q (k : Int) (s : List UInt8) (w : World) (hs : s.length ≤ 65536) : Calls Tryz.prog 39 #[.int .i64 k, str s] w (PairQ s w) := by
 refine calls_of_wp Tryz.func39 rfl ?_
 refine ca_open (k := k) (s := s) (I rfl) (I rfl) (I rfl) (I rfl) (I rfl) (I rfl) (I rfl) (I rfl) (I rfl) rfl (by kernel_rfl) (by kernel_rfl) (fr_two (x := .int .i64 k) (y := str s) Tryz.ntmps39 (by decide)) ?_
 intro A w1 F ka kb k4 k5 bw
 have za := ka.lt
 have zb := kb.lt
 have fin : ∀ A' w', Fr 257 [(38, .int .i64 k), (7, ptr (w.heap.size + 3)), (6, ptr (w.heap.size + 2)), (5, ptr (w.heap.size + 1)), (4, ptr w.heap.size), (0, .int .i64 k), (1, str s)] A' → Dn s (w.heap.size + 2) (w.heap.size + 3) w' → But (fun k => k = w.heap.size + 2 ∨ k = w.heap.size + 3) w1 w' → Code.wp Tryz.prog (lastOf Tryz.f39) (bodyPost Tryz.prog Tryz.f39 (PairQ s w)) A' w' := by
  rintro A' w' F' ⟨er, pe, out, ha, hb, hk⟩ hB
  have k4' := hB.blk k4 (by omega)
  have k5' := hB.blk k5 (by omega)
  have bw' := bw.trans (hB.below bw.size (fun k q => by omega))
  exact ca_last (I rfl) (I rfl) (I rfl) (I rfl) Tryz.results39 (by kernel_rfl) (by kernel_rfl) (by kernel_rfl) (by kernel_rfl) (by kernel_rfl) (by kernel_rfl) (by kernel_rfl) (by kernel_rfl) (by kernel_rfl) (by kernel_rfl) ⟨rfl, rfl, rfl, rfl⟩ ⟨gotC_one _ _ _, gotC_one _ _ _⟩ rfl (by simp) (by simp) (by simp) (by simp) F' ha hb k4' k5' (by omega) fun w'' h => ⟨er, pe, out, rfl, bw'.trans (h.below bw'.size (fun k q => by omega)), hk⟩
 refine wp_block ?_
 refine ca_test (k := k) (I rfl) (I rfl) rfl (by simp) F (fun _ A F => case_agg wgetBlock_c rgetBlock_c wputBlock_n rfl (I rfl) (I rfl) (I rfl) (I rfl) (I rfl) (I rfl) (I rfl) (I rfl) (I rfl) (I rfl) (I rfl) (I rfl) (I rfl) (I rfl) (I rfl) (I rfl) (I rfl) (I rfl) (I rfl) (I rfl) (I rfl) (I rfl) (I rfl) (I rfl) (I rfl) (I rfl) (I rfl) (I rfl) (I rfl) (I rfl) (I rfl) (by kernel_rfl) (by kernel_rfl) (by kernel_rfl) (by kernel_rfl) (by kernel_rfl) (by kernel_rfl) (by kernel_rfl) (by kernel_rfl) (by kernel_rfl) rfl (fun _ _ => rfl) (fun _ _ _ _ => rfl) (fun _ _ _ _ => rfl) (fun _ _ _ _ => rfl) (by simp) (by simp) (by simp) F hs ka kb (by omega) fun A1 fs gs er pe out xb yb w2 F1 H kx ky hx hy => case_fin rputBlock_c (thing_backs _ _ _ _) rfl (I rfl) (I rfl) (I rfl) (I rfl) (I rfl) (I rfl) (I rfl) (I rfl) (I rfl) (by kernel_rfl) (by kernel_rfl) (by kernel_rfl) (by kernel_rfl) (by kernel_rfl) (by kernel_rfl) rfl (by simp) (by simp) F1 H ky (by omega) fun A2 w3 F2 hD hB => fin A2 w3 F2.tl.tl hD (H.but.trans hB)) ?_
 clear F
 intro _ A F
 refine ca_test (k := k) (I rfl) (I rfl) rfl (by simp) F (fun _ A F => case_agg wgetMessage_c rgetMessage_c wputMessage_n rfl (I rfl) (I rfl) (I rfl) (I rfl) (I rfl) (I rfl) (I rfl) (I rfl) (I rfl) (I rfl) (I rfl) (I rfl) (I rfl) (I rfl) (I rfl) (I rfl) (I rfl) (I rfl) (I rfl) (I rfl) (I rfl) (I rfl) (I rfl) (I rfl) (I rfl) (I rfl) (I rfl) (I rfl) (I rfl) (I rfl) (I rfl) (by kernel_rfl) (by kernel_rfl) (by kernel_rfl) (by kernel_rfl) (by kernel_rfl) (by kernel_rfl) (by kernel_rfl) (by kernel_rfl) (by kernel_rfl) rfl (fun _ _ => rfl) (fun _ _ _ _ => rfl) (fun _ _ _ _ => rfl) (fun _ _ _ _ => rfl) (by simp) (by simp) (by simp) F hs ka kb (by omega) fun A1 fs gs er pe out xb yb w2 F1 H kx ky hx hy => case_fin rputMessage_c (thing_backs _ _ _ _) rfl (I rfl) (I rfl) (I rfl) (I rfl) (I rfl) (I rfl) (I rfl) (I rfl) (I rfl) (by kernel_rfl) (by kernel_rfl) (by kernel_rfl) (by kernel_rfl) (by kernel_rfl) (by kernel_rfl) rfl (by simp) (by simp) F1 H ky (by omega) fun A2 w3 F2 hD hB => fin A2 w3 F2.tl.tl hD (H.but.trans hB)) ?_
 clear F
 intro _ A F
 refine ca_test (k := k) (I rfl) (I rfl) rfl (by simp) F (fun _ A F => case_agg wgetRecord_c rgetRecord_c wputRecord_n rfl (I rfl) (I rfl) (I rfl) (I rfl) (I rfl) (I rfl) (I rfl) (I rfl) (I rfl) (I rfl) (I rfl) (I rfl) (I rfl) (I rfl) (I rfl) (I rfl) (I rfl) (I rfl) (I rfl) (I rfl) (I rfl) (I rfl) (I rfl) (I rfl) (I rfl) (I rfl) (I rfl) (I rfl) (I rfl) (I rfl) (I rfl) (by kernel_rfl) (by kernel_rfl) (by kernel_rfl) (by kernel_rfl) (by kernel_rfl) (by kernel_rfl) (by kernel_rfl) (by kernel_rfl) (by kernel_rfl) rfl (fun _ _ => rfl) (fun _ _ _ _ => rfl) (fun _ _ _ _ => rfl) (fun _ _ _ _ => rfl) (by simp) (by simp) (by simp) F hs ka kb (by omega) fun A1 fs gs er pe out xb yb w2 F1 H kx ky hx hy => case_fin rputRecord_c rec_backs rfl (I rfl) (I rfl) (I rfl) (I rfl) (I rfl) (I rfl) (I rfl) (I rfl) (I rfl) (by kernel_rfl) (by kernel_rfl) (by kernel_rfl) (by kernel_rfl) (by kernel_rfl) (by kernel_rfl) rfl (by simp) (by simp) F1 H ky (by omega) fun A2 w3 F2 hD hB => fin A2 w3 F2.tl.tl hD (H.but.trans hB)) ?_
 clear F
 intro _ A F
 refine ca_test (k := k) (I rfl) (I rfl) rfl (by simp) F (fun _ A F => case_agg wgetAccount_c rgetAccount_c wputAccount_n rfl (I rfl) (I rfl) (I rfl) (I rfl) (I rfl) (I rfl) (I rfl) (I rfl) (I rfl) (I rfl) (I rfl) (I rfl) (I rfl) (I rfl) (I rfl) (I rfl) (I rfl) (I rfl) (I rfl) (I rfl) (I rfl) (I rfl) (I rfl) (I rfl) (I rfl) (I rfl) (I rfl) (I rfl) (I rfl) (I rfl) (I rfl) (by kernel_rfl) (by kernel_rfl) (by kernel_rfl) (by kernel_rfl) (by kernel_rfl) (by kernel_rfl) (by kernel_rfl) (by kernel_rfl) (by kernel_rfl) rfl (fun _ _ => rfl) (fun _ _ _ _ => rfl) (fun _ _ _ _ => rfl) (fun _ _ _ _ => rfl) (by simp) (by simp) (by simp) F hs ka kb (by omega) fun A1 fs gs er pe out xb yb w2 F1 H kx ky hx hy => by
   obtain ⟨x, rfl⟩ := Acc.of gs H.fit
   obtain rfl := pv_inj fs _ rfl H.pv
   exact wp_seq (case_fin rputAccount_c (thing_backs _ _ _ _) rfl (I rfl) (I rfl) (I rfl) (I rfl) (I rfl) (I rfl) (I rfl) (I rfl) (I rfl) (by kernel_rfl) (by kernel_rfl) (by kernel_rfl) (by kernel_rfl) (by kernel_rfl) (by kernel_rfl) rfl (by simp) (by simp) F1 H ky (by omega) fun A2 w3 F2 hD hB => case_same (C := ((Acc.flds x).map Fld.val).toArray) (I rfl) (I rfl) (I rfl) (by kernel_rfl) (by kernel_rfl) (acc_neq x) rfl (by simp) (by simp) F2 (hB.blk kx (by omega)) (hB.blk ky (by omega)) fun A3 F3 => fin A3 w3 F3.tl.tl hD (H.but.trans hB))) ?_
 clear F
 intro _ A F
 refine ca_test (k := k) (I rfl) (I rfl) rfl (by simp) F (fun _ A F => case_agg wgetParcel_c rgetParcel_c wputParcel_n rfl (I rfl) (I rfl) (I rfl) (I rfl) (I rfl) (I rfl) (I rfl) (I rfl) (I rfl) (I rfl) (I rfl) (I rfl) (I rfl) (I rfl) (I rfl) (I rfl) (I rfl) (I rfl) (I rfl) (I rfl) (I rfl) (I rfl) (I rfl) (I rfl) (I rfl) (I rfl) (I rfl) (I rfl) (I rfl) (I rfl) (I rfl) (by kernel_rfl) (by kernel_rfl) (by kernel_rfl) (by kernel_rfl) (by kernel_rfl) (by kernel_rfl) (by kernel_rfl) (by kernel_rfl) (by kernel_rfl) rfl (fun _ _ => rfl) (fun _ _ _ _ => rfl) (fun _ _ _ _ => rfl) (fun _ _ _ _ => rfl) (by simp) (by simp) (by simp) F hs ka kb (by omega) fun A1 fs gs er pe out xb yb w2 F1 H kx ky hx hy => by
   obtain ⟨x, rfl⟩ := Par.of gs H.fit
   obtain rfl := pv_inj fs _ rfl H.pv
   exact wp_seq (case_fin rputParcel_c (thing_backs _ _ _ _) rfl (I rfl) (I rfl) (I rfl) (I rfl) (I rfl) (I rfl) (I rfl) (I rfl) (I rfl) (by kernel_rfl) (by kernel_rfl) (by kernel_rfl) (by kernel_rfl) (by kernel_rfl) (by kernel_rfl) rfl (by simp) (by simp) F1 H ky (by omega) fun A2 w3 F2 hD hB => case_same (C := ((Par.flds x).map Fld.val).toArray) (I rfl) (I rfl) (I rfl) (by kernel_rfl) (by kernel_rfl) (par_neq x) rfl (by simp) (by simp) F2 (hB.blk kx (by omega)) (hB.blk ky (by omega)) fun A3 F3 => fin A3 w3 F3.tl.tl hD (H.but.trans hB))) ?_
 clear F
 intro _ A F
 refine ca_test (k := k) (I rfl) (I rfl) rfl (by simp) F (fun _ A F => case_agg wgetView_c rgetView_c wputView_n rfl (I rfl) (I rfl) (I rfl) (I rfl) (I rfl) (I rfl) (I rfl) (I rfl) (I rfl) (I rfl) (I rfl) (I rfl) (I rfl) (I rfl) (I rfl) (I rfl) (I rfl) (I rfl) (I rfl) (I rfl) (I rfl) (I rfl) (I rfl) (I rfl) (I rfl) (I rfl) (I rfl) (I rfl) (I rfl) (I rfl) (I rfl) (by kernel_rfl) (by kernel_rfl) (by kernel_rfl) (by kernel_rfl) (by kernel_rfl) (by kernel_rfl) (by kernel_rfl) (by kernel_rfl) (by kernel_rfl) rfl (fun _ _ => rfl) (fun _ _ _ _ => rfl) (fun _ _ _ _ => rfl) (fun _ _ _ _ => rfl) (by simp) (by simp) (by simp) F hs ka kb (by omega) fun A1 fs gs er pe out xb yb w2 F1 H kx ky hx hy => case_fin rputView_c (thing_backs _ _ _ _) rfl (I rfl) (I rfl) (I rfl) (I rfl) (I rfl) (I rfl) (I rfl) (I rfl) (I rfl) (by kernel_rfl) (by kernel_rfl) (by kernel_rfl) (by kernel_rfl) (by kernel_rfl) (by kernel_rfl) rfl (by simp) (by simp) F1 H ky (by omega) fun A2 w3 F2 hD hB => fin A2 w3 F2.tl.tl hD (H.but.trans hB)) ?_
 clear F
 intro _ A F
 exact case_agg wgetResult_c rgetResult_c wputResult_n rfl (I rfl) (I rfl) (I rfl) (I rfl) (I rfl) (I rfl) (I rfl) (I rfl) (I rfl) (I rfl) (I rfl) (I rfl) (I rfl) (I rfl) (I rfl) (I rfl) (I rfl) (I rfl) (I rfl) (I rfl) (I rfl) (I rfl) (I rfl) (I rfl) (I rfl) (I rfl) (I rfl) (I rfl) (I rfl) (I rfl) (I rfl) (by kernel_rfl) (by kernel_rfl) (by kernel_rfl) (by kernel_rfl) (by kernel_rfl) (by kernel_rfl) (by kernel_rfl) (by kernel_rfl) (by kernel_rfl) rfl (fun _ _ => rfl) (fun _ _ _ _ => rfl) (fun _ _ _ _ => rfl) (fun _ _ _ _ => rfl) (by simp) (by simp) (by simp) F hs ka kb (by omega) fun A1 fs gs er pe out xb yb w2 F1 H kx ky hx hy => case_fin rputResult_c (thing_backs _ _ _ _) rfl (I rfl) (I rfl) (I rfl) (I rfl) (I rfl) (I rfl) (I rfl) (I rfl) (I rfl) (by kernel_rfl) (by kernel_rfl) (by kernel_rfl) (by kernel_rfl) (by kernel_rfl) (by kernel_rfl) rfl (by simp) (by simp) F1 H ky (by omega) fun A2 w3 F2 hD hB => fin A2 w3 F2.tl.tl hD (H.but.trans hB)
theorem ca_default {N id i1 i2 i3 i4 i5 ra rb : Nat} {o1 o2 o3 o4 o5 o6 o7 : Oper} {fn : Func} {k : Int} {s : List UInt8} {c5 c6 : Array Value} {ts : Array TypeId} {L : List (Nat × Value)} {A : Act} {w0 w : World} {Q : Exit → Act → World → Prop} (hQ : ∀ a w, bodyPost Tryz.prog fn (PairQ s w0) .ret a w → Q .ret a w)
  (h1 : Is o1 (some i1) (.move (.tmp 0))) (h2 : Is o2 (some i2) (.move (.tmp 1))) (h3 : Is o3 (some i3) (.call { callee := .value (.func 39), args := #[.tmp i1, .tmp i2], argTypes := ts })) (h4 : Is o4 (some i4) (.extract (.tmp i3) 0)) (h5 : Is o5 (some i5) (.extract (.tmp i3) 1)) (h6 : Is o6 none (.store 24 (.tmp 4) (.tmp i4))) (h7 : Is o7 none (.store 24 (.tmp 5) (.tmp i5))) (hres : fn.results = #[.cell 4 24, .cell 5 24])
  (hrt : rowT Tryz.prog 24 = true) (hsz : (Tryz.prog.info? 24).map (·.size) = some 4) (chk : (freeOf [i1, i2, i3, i4, i5] L && decide (i1 < N) && decide (i2 < N) && decide (i3 < N) && decide (i4 < N) && decide (i5 < N) && decide (i2 ≠ i1) && decide (i4 ≠ i3) && decide (i5 ≠ i4)) = true) (m0 : (0, .int .i64 k) ∈ L) (m1 : (1, str s) ∈ L) (m4 : (4, ptr ra) ∈ L) (m5 : (5, ptr rb) ∈ L) (F : Fr N L A) (kr : Blk w ra c5 24) (ks : Blk w rb c6 24) (hc : c5.size = 4 ∧ c6.size = 4) (hne : ra ≠ rb) (hra : w0.heap.size ≤ ra ∧ w0.heap.size ≤ rb) (bw : Below w0.heap.size w0 w) (hs : s.length ≤ 65536) :
  (Code.seq (.region id #[o1, o2, o3, o4, o5, o6, o7] false) .ret).wp Tryz.prog Q A w := by
 simp only [Bool.and_eq_true, decide_eq_true_eq] at chk
 obtain ⟨⟨⟨⟨⟨⟨⟨⟨c1, d1⟩, d2⟩, d3⟩, d4⟩, d5⟩, e1⟩, e2⟩, e3⟩ := chk
 obtain ⟨d, hu, hd⟩ := rowT_out hrt
 refine wp_seq (wp_region_list ?_)
 show wpList _ _ _ [o1, o2, o3, o4, o5, o6, o7] _ _
 refine ol_move h1.2.2 (.inl h1.2.1) ?_
 rw [h1.1, F.get m0]
 have F1 := F.put (v := .int .i64 k) c1 (show i1 ∈ _ by simp)
 have q1 : (A.put (some i1) (.int .i64 k)).eval (.tmp i1) = .int .i64 k := eval_put_self (by rw [F.1]; exact d1)
 generalize A.put (some i1) (.int .i64 k) = A1 at *
 refine ol_move h2.2.2 (.inl h2.2.1) ?_
 rw [h2.1, F1.get m1]
 have F2 := F1.put (v := str s) c1 (show i2 ∈ _ by simp)
 refine ol_call h3.2.2 (by kernel_rfl) h3.2.1 (vs := #[.int .i64 k, str s]) (by rw [List.map_toArray]; simp only [List.map_cons, List.map_nil]; rw [eval_put e1, q1, eval_put_self (by rw [F1.1]; exact d2)]) (lpairs_q k s w hs) ?_
 rintro e w1 ⟨er, pe, out, rfl, b1, hk⟩
 refine ⟨_, rfl, ?_⟩
 rw [h3.1]
 have F3 := F2.put (v := .tuple #[.agg (gotC er pe out), .agg (gotC er pe out)]) c1 (show i3 ∈ _ by simp)
 have q3 : (Act.put (A1.put (some i2) (str s)) (some i3) (.tuple #[.agg (gotC er pe out), .agg (gotC er pe out)])).eval (.tmp i3) = .tuple #[.agg (gotC er pe out), .agg (gotC er pe out)] := eval_put_self (by rw [F2.1]; exact d3)
 generalize Act.put (A1.put (some i2) (str s)) (some i3) (.tuple #[.agg (gotC er pe out), .agg (gotC er pe out)]) = A3 at *
 refine ol_extract h4.2.2 h4.2.1 q3 (v := .agg (gotC er pe out)) rfl ?_
 rw [h4.1]
 have F4 := F3.put (v := .agg (gotC er pe out)) c1 (show i4 ∈ _ by simp)
 have q4 : (A3.put (some i4) (.agg (gotC er pe out))).eval (.tmp i3) = .tuple #[.agg (gotC er pe out), .agg (gotC er pe out)] := (eval_put e2).trans q3
 have r4 : (A3.put (some i4) (.agg (gotC er pe out))).eval (.tmp i4) = .agg (gotC er pe out) := eval_put_self (by rw [F3.1]; exact d4)
 generalize A3.put (some i4) (.agg (gotC er pe out)) = A4 at *
 refine ol_extract h5.2.2 h5.2.1 q4 (v := .agg (gotC er pe out)) rfl ?_
 rw [h5.1]
 have F5 := F4.put (v := .agg (gotC er pe out)) c1 (show i5 ∈ _ by simp)
 have r5 : (A4.put (some i5) (.agg (gotC er pe out))).eval (.tmp i4) = .agg (gotC er pe out) := (eval_put e3).trans r4
 have s5 : (A4.put (some i5) (.agg (gotC er pe out))).eval (.tmp i5) = .agg (gotC er pe out) := eval_put_self (by rw [F4.1]; exact d5)
 generalize A4.put (some i5) (.agg (gotC er pe out)) = A5 at *
 have kr1 := kr.below b1 kr.lt
 have ks1 := ks.below b1 ks.lt
 have bw1 := bw.trans (b1.mono bw.size)
 refine ol_store h6.2.2 h6.1 h6.2.1 (F5.get m4) r5 (kr1.thereAt 0 _ (by show 0 + 4 ≤ _; omega)) hsz (gotC_one _ _ _) ?_
 have Ba := but_cells ra (gotC er pe out).toList 0 w1
 have kr2 : Blk (w1.setCells ra 0 (gotC er pe out).toList) ra (gotC er pe out) 24 := by
  have q := kr1.putCells (gotC er pe out).toList 0 _ _
  rw [putAt_all (by rw [hc.1]; rfl), Array.toArray_toList] at q
  exact q
 have ks2 := Ba.blk ks1 (fun q => hne q.symm)
 show wpList _ _ _ _ _ (w1.setCells ra 0 (gotC er pe out).toList)
 generalize w1.setCells ra 0 (gotC er pe out).toList = w2 at *
 refine ol_store h7.2.2 h7.1 h7.2.1 (F5.get m5) s5 (ks2.thereAt 0 _ (by show 0 + 4 ≤ _; omega)) hsz (gotC_one _ _ _) ?_
 have Bb := but_cells rb (gotC er pe out).toList 0 w2
 have ks3 : Blk (w2.setCells rb 0 (gotC er pe out).toList) rb (gotC er pe out) 24 := by
  have q := ks2.putCells (gotC er pe out).toList 0 _ _
  rw [putAt_all (by rw [hc.2]; rfl), Array.toArray_toList] at q
  exact q
 have kr3 := Bb.blk kr2 (fun q => hne q)
 show wpList _ _ _ _ _ (w2.setCells rb 0 (gotC er pe out).toList)
 generalize w2.setCells rb 0 (gotC er pe out).toList = w3 at *
 refine wpList_nil ?_
 show Code.wp _ _ _ _ _
 have bw3 := (bw1.trans (Ba.below bw1.size (fun k q => by omega)))
 have bw4 := bw3.trans (Bb.below bw3.size (fun k q => by omega))
 refine wp_ret (hQ _ _ (bodyPost_ret (v := .tuple #[.agg (gotC er pe out), .agg (gotC er pe out)]) ?_ F5.2.1 ⟨er, pe, out, rfl, bw4, hk⟩))
 have l4 := run_loadVar_mid (P := Tryz.prog) w3 ra 0 24 (gotC er pe out).toList d kr3.range hu hd hsz
 have l5 := run_loadVar_mid (P := Tryz.prog) w3 rb 0 24 (gotC er pe out).toList d ks3.range hu hd hsz
 rw [Array.toArray_toList] at l4 l5
 have e4 : A5.tmps[4]?.getD undef = .pointer (some ⟨ra, 0, none⟩) := by
  have := F5.get m4
  unfold Act.eval at this
  rw [← Array.getD_eq_getD_getElem?]
  exact this
 have e5 : A5.tmps[5]?.getD undef = .pointer (some ⟨rb, 0, none⟩) := by
  have := F5.get m5
  unfold Act.eval at this
  rw [← Array.getD_eq_getD_getElem?]
  exact this
 simp [results, hres, asAddr, e4, e5, l4, l5]
set_option maxRecDepth 8000 in
set_option maxHeartbeats 6400000 in
theorem lpair_q (k : Int) (s : List UInt8) (w : World) (hs : s.length ≤ 65536) : Calls Tryz.prog 5 #[.int .i64 k, str s] w (PairQ s w) := by
 refine calls_of_wp Tryz.func5 rfl ?_
 refine ca_open (k := k) (s := s) (I rfl) (I rfl) (I rfl) (I rfl) (I rfl) (I rfl) (I rfl) (I rfl) (I rfl) rfl (by kernel_rfl) (by kernel_rfl) (fr_two (x := .int .i64 k) (y := str s) Tryz.ntmps5 (by decide)) ?_
 intro A w1 F ka kb k4 k5 bw
 have za := ka.lt
 have zb := kb.lt
 have fin : ∀ A' w', Fr 290 [(42, .int .i64 k), (7, ptr (w.heap.size + 3)), (6, ptr (w.heap.size + 2)), (5, ptr (w.heap.size + 1)), (4, ptr w.heap.size), (0, .int .i64 k), (1, str s)] A' → Dn s (w.heap.size + 2) (w.heap.size + 3) w' → But (fun k => k = w.heap.size + 2 ∨ k = w.heap.size + 3) w1 w' → Code.wp Tryz.prog (lastOf Tryz.f5) (bodyPost Tryz.prog Tryz.f5 (PairQ s w)) A' w' := by
  rintro A' w' F' ⟨er, pe, out, ha, hb, hk⟩ hB
  have k4' := hB.blk k4 (by omega)
  have k5' := hB.blk k5 (by omega)
  have bw' := bw.trans (hB.below bw.size (fun k q => by omega))
  exact ca_last (I rfl) (I rfl) (I rfl) (I rfl) Tryz.results5 (by kernel_rfl) (by kernel_rfl) (by kernel_rfl) (by kernel_rfl) (by kernel_rfl) (by kernel_rfl) (by kernel_rfl) (by kernel_rfl) (by kernel_rfl) (by kernel_rfl) ⟨rfl, rfl, rfl, rfl⟩ ⟨gotC_one _ _ _, gotC_one _ _ _⟩ rfl (by simp) (by simp) (by simp) (by simp) F' ha hb k4' k5' (by omega) fun w'' h => ⟨er, pe, out, rfl, bw'.trans (h.below bw'.size (fun k q => by omega)), hk⟩
 refine wp_block ?_
 refine ca_test (k := k) (I rfl) (I rfl) rfl (by simp) F (fun _ A F => case_slot wgetNumber_c rgetNumber_c wputNumber_n rputNumber_c (thing_backs _ _ _ _) (I rfl) (I rfl) (I rfl) (I rfl) (I rfl) (I rfl) (I rfl) (I rfl) (I rfl) (I rfl) (I rfl) (I rfl) (I rfl) (I rfl) (I rfl) (I rfl) (I rfl) (I rfl) (I rfl) (I rfl) (I rfl) (I rfl) (I rfl) (I rfl) (I rfl) (I rfl) (I rfl) (I rfl) (I rfl) (I rfl) (I rfl) (I rfl) (I rfl) (I rfl) (I rfl) (I rfl) (I rfl) (I rfl) (by kernel_rfl) (by kernel_rfl) (by kernel_rfl) (by kernel_rfl) (by kernel_rfl) (by kernel_rfl) (by kernel_rfl) (by kernel_rfl) (by kernel_rfl) rfl rfl (fun _ _ => rfl) (fun _ _ => rfl) (fun _ _ _ _ => rfl) (fun _ _ _ _ => rfl) (fun _ _ _ _ => rfl) (fun _ _ _ _ => rfl) (by simp) (by simp) (by simp) F hs ka kb (by omega) fun A1 w2 F1 hD hB => fin A1 w2 F1 hD hB) ?_
 clear F
 intro _ A F
 refine ca_test (k := k) (I rfl) (I rfl) rfl (by simp) F (fun _ A F => case_agg wgetVote_c rgetVote_c wputVote_n rfl (I rfl) (I rfl) (I rfl) (I rfl) (I rfl) (I rfl) (I rfl) (I rfl) (I rfl) (I rfl) (I rfl) (I rfl) (I rfl) (I rfl) (I rfl) (I rfl) (I rfl) (I rfl) (I rfl) (I rfl) (I rfl) (I rfl) (I rfl) (I rfl) (I rfl) (I rfl) (I rfl) (I rfl) (I rfl) (I rfl) (I rfl) (by kernel_rfl) (by kernel_rfl) (by kernel_rfl) (by kernel_rfl) (by kernel_rfl) (by kernel_rfl) (by kernel_rfl) (by kernel_rfl) (by kernel_rfl) rfl (fun _ _ => rfl) (fun _ _ _ _ => rfl) (fun _ _ _ _ => rfl) (fun _ _ _ _ => rfl) (by simp) (by simp) (by simp) F hs ka kb (by omega) fun A1 fs gs er pe out xb yb w2 F1 H kx ky hx hy => case_fin rputVote_c (thing_backs _ _ _ _) rfl (I rfl) (I rfl) (I rfl) (I rfl) (I rfl) (I rfl) (I rfl) (I rfl) (I rfl) (by kernel_rfl) (by kernel_rfl) (by kernel_rfl) (by kernel_rfl) (by kernel_rfl) (by kernel_rfl) rfl (by simp) (by simp) F1 H ky (by omega) fun A2 w3 F2 hD hB => fin A2 w3 F2.tl.tl hD (H.but.trans hB)) ?_
 clear F
 intro _ A F
 refine ca_test (k := k) (I rfl) (I rfl) rfl (by simp) F (fun _ A F => case_agg wgetCert_c rgetCert_c wputCert_n rfl (I rfl) (I rfl) (I rfl) (I rfl) (I rfl) (I rfl) (I rfl) (I rfl) (I rfl) (I rfl) (I rfl) (I rfl) (I rfl) (I rfl) (I rfl) (I rfl) (I rfl) (I rfl) (I rfl) (I rfl) (I rfl) (I rfl) (I rfl) (I rfl) (I rfl) (I rfl) (I rfl) (I rfl) (I rfl) (I rfl) (I rfl) (by kernel_rfl) (by kernel_rfl) (by kernel_rfl) (by kernel_rfl) (by kernel_rfl) (by kernel_rfl) (by kernel_rfl) (by kernel_rfl) (by kernel_rfl) rfl (fun _ _ => rfl) (fun _ _ _ _ => rfl) (fun _ _ _ _ => rfl) (fun _ _ _ _ => rfl) (by simp) (by simp) (by simp) F hs ka kb (by omega) fun A1 fs gs er pe out xb yb w2 F1 H kx ky hx hy => case_fin rputCert_c (thing_backs _ _ _ _) rfl (I rfl) (I rfl) (I rfl) (I rfl) (I rfl) (I rfl) (I rfl) (I rfl) (I rfl) (by kernel_rfl) (by kernel_rfl) (by kernel_rfl) (by kernel_rfl) (by kernel_rfl) (by kernel_rfl) rfl (by simp) (by simp) F1 H ky (by omega) fun A2 w3 F2 hD hB => fin A2 w3 F2.tl.tl hD (H.but.trans hB)) ?_
 clear F
 intro _ A F
 refine ca_test (k := k) (I rfl) (I rfl) rfl (by simp) F (fun _ A F => case_slot wgetBench_c rgetBench_c wputBench_n rputBench_c (thing_backs _ _ _ _) (I rfl) (I rfl) (I rfl) (I rfl) (I rfl) (I rfl) (I rfl) (I rfl) (I rfl) (I rfl) (I rfl) (I rfl) (I rfl) (I rfl) (I rfl) (I rfl) (I rfl) (I rfl) (I rfl) (I rfl) (I rfl) (I rfl) (I rfl) (I rfl) (I rfl) (I rfl) (I rfl) (I rfl) (I rfl) (I rfl) (I rfl) (I rfl) (I rfl) (I rfl) (I rfl) (I rfl) (I rfl) (I rfl) (by kernel_rfl) (by kernel_rfl) (by kernel_rfl) (by kernel_rfl) (by kernel_rfl) (by kernel_rfl) (by kernel_rfl) (by kernel_rfl) (by kernel_rfl) rfl rfl (fun _ _ => rfl) (fun _ _ => rfl) (fun _ _ _ _ => rfl) (fun _ _ _ _ => rfl) (fun _ _ _ _ => rfl) (fun _ _ _ _ => rfl) (by simp) (by simp) (by simp) F hs ka kb (by omega) fun A1 w2 F1 hD hB => fin A1 w2 F1 hD hB) ?_
 clear F
 intro _ A F
 refine ca_test (k := k) (I rfl) (I rfl) rfl (by simp) F (fun _ A F => case_agg wgetHeader_c rgetHeader_c wputHeader_n rfl (I rfl) (I rfl) (I rfl) (I rfl) (I rfl) (I rfl) (I rfl) (I rfl) (I rfl) (I rfl) (I rfl) (I rfl) (I rfl) (I rfl) (I rfl) (I rfl) (I rfl) (I rfl) (I rfl) (I rfl) (I rfl) (I rfl) (I rfl) (I rfl) (I rfl) (I rfl) (I rfl) (I rfl) (I rfl) (I rfl) (I rfl) (by kernel_rfl) (by kernel_rfl) (by kernel_rfl) (by kernel_rfl) (by kernel_rfl) (by kernel_rfl) (by kernel_rfl) (by kernel_rfl) (by kernel_rfl) rfl (fun _ _ => rfl) (fun _ _ _ _ => rfl) (fun _ _ _ _ => rfl) (fun _ _ _ _ => rfl) (by simp) (by simp) (by simp) F hs ka kb (by omega) fun A1 fs gs er pe out xb yb w2 F1 H kx ky hx hy => case_fin rputHeader_c (thing_backs _ _ _ _) rfl (I rfl) (I rfl) (I rfl) (I rfl) (I rfl) (I rfl) (I rfl) (I rfl) (I rfl) (by kernel_rfl) (by kernel_rfl) (by kernel_rfl) (by kernel_rfl) (by kernel_rfl) (by kernel_rfl) rfl (by simp) (by simp) F1 H ky (by omega) fun A2 w3 F2 hD hB => fin A2 w3 F2.tl.tl hD (H.but.trans hB)) ?_
 clear F
 intro _ A F
 refine ca_test (k := k) (I rfl) (I rfl) rfl (by simp) F (fun _ A F => case_agg wgetProof_c rgetProof_c wputProof_n rfl (I rfl) (I rfl) (I rfl) (I rfl) (I rfl) (I rfl) (I rfl) (I rfl) (I rfl) (I rfl) (I rfl) (I rfl) (I rfl) (I rfl) (I rfl) (I rfl) (I rfl) (I rfl) (I rfl) (I rfl) (I rfl) (I rfl) (I rfl) (I rfl) (I rfl) (I rfl) (I rfl) (I rfl) (I rfl) (I rfl) (I rfl) (by kernel_rfl) (by kernel_rfl) (by kernel_rfl) (by kernel_rfl) (by kernel_rfl) (by kernel_rfl) (by kernel_rfl) (by kernel_rfl) (by kernel_rfl) rfl (fun _ _ => rfl) (fun _ _ _ _ => rfl) (fun _ _ _ _ => rfl) (fun _ _ _ _ => rfl) (by simp) (by simp) (by simp) F hs ka kb (by omega) fun A1 fs gs er pe out xb yb w2 F1 H kx ky hx hy => case_fin rputProof_c (thing_backs _ _ _ _) rfl (I rfl) (I rfl) (I rfl) (I rfl) (I rfl) (I rfl) (I rfl) (I rfl) (I rfl) (by kernel_rfl) (by kernel_rfl) (by kernel_rfl) (by kernel_rfl) (by kernel_rfl) (by kernel_rfl) rfl (by simp) (by simp) F1 H ky (by omega) fun A2 w3 F2 hD hB => fin A2 w3 F2.tl.tl hD (H.but.trans hB)) ?_
 clear F
 intro _ A F
 refine ca_test (k := k) (I rfl) (I rfl) rfl (by simp) F (fun _ A F => case_agg wgetTx_c rgetTx_c wputTx_n rfl (I rfl) (I rfl) (I rfl) (I rfl) (I rfl) (I rfl) (I rfl) (I rfl) (I rfl) (I rfl) (I rfl) (I rfl) (I rfl) (I rfl) (I rfl) (I rfl) (I rfl) (I rfl) (I rfl) (I rfl) (I rfl) (I rfl) (I rfl) (I rfl) (I rfl) (I rfl) (I rfl) (I rfl) (I rfl) (I rfl) (I rfl) (by kernel_rfl) (by kernel_rfl) (by kernel_rfl) (by kernel_rfl) (by kernel_rfl) (by kernel_rfl) (by kernel_rfl) (by kernel_rfl) (by kernel_rfl) rfl (fun _ _ => rfl) (fun _ _ _ _ => rfl) (fun _ _ _ _ => rfl) (fun _ _ _ _ => rfl) (by simp) (by simp) (by simp) F hs ka kb (by omega) fun A1 fs gs er pe out xb yb w2 F1 H kx ky hx hy => case_fin rputTx_c (thing_backs _ _ _ _) rfl (I rfl) (I rfl) (I rfl) (I rfl) (I rfl) (I rfl) (I rfl) (I rfl) (I rfl) (by kernel_rfl) (by kernel_rfl) (by kernel_rfl) (by kernel_rfl) (by kernel_rfl) (by kernel_rfl) rfl (by simp) (by simp) F1 H ky (by omega) fun A2 w3 F2 hD hB => fin A2 w3 F2.tl.tl hD (H.but.trans hB)) ?_
 clear F
 intro _ A F
 refine ca_test (k := k) (I rfl) (I rfl) rfl (by simp) F (fun _ A F => case_agg wgetGuilt_c rgetGuilt_c wputGuilt_n rfl (I rfl) (I rfl) (I rfl) (I rfl) (I rfl) (I rfl) (I rfl) (I rfl) (I rfl) (I rfl) (I rfl) (I rfl) (I rfl) (I rfl) (I rfl) (I rfl) (I rfl) (I rfl) (I rfl) (I rfl) (I rfl) (I rfl) (I rfl) (I rfl) (I rfl) (I rfl) (I rfl) (I rfl) (I rfl) (I rfl) (I rfl) (by kernel_rfl) (by kernel_rfl) (by kernel_rfl) (by kernel_rfl) (by kernel_rfl) (by kernel_rfl) (by kernel_rfl) (by kernel_rfl) (by kernel_rfl) rfl (fun _ _ => rfl) (fun _ _ _ _ => rfl) (fun _ _ _ _ => rfl) (fun _ _ _ _ => rfl) (by simp) (by simp) (by simp) F hs ka kb (by omega) fun A1 fs gs er pe out xb yb w2 F1 H kx ky hx hy => case_fin rputGuilt_c (thing_backs _ _ _ _) rfl (I rfl) (I rfl) (I rfl) (I rfl) (I rfl) (I rfl) (I rfl) (I rfl) (I rfl) (by kernel_rfl) (by kernel_rfl) (by kernel_rfl) (by kernel_rfl) (by kernel_rfl) (by kernel_rfl) rfl (by simp) (by simp) F1 H ky (by omega) fun A2 w3 F2 hD hB => fin A2 w3 F2.tl.tl hD (H.but.trans hB)) ?_
 clear F
 intro _ A F
 exact ca_default (fn := Tryz.f5) (k := k) (ra := w.heap.size) (rb := w.heap.size + 1) (w0 := w) (fun _ _ h => h) (I rfl) (I rfl) (I rfl) (I rfl) (I rfl) (I rfl) (I rfl) Tryz.results5 (by kernel_rfl) (by kernel_rfl) rfl (by simp) (by simp) (by simp) (by simp) F k4 k5 ⟨rfl, rfl⟩ (by omega) (by omega) bw hs
theorem lpick_any (c n : Int) (w : World) (hc : -9223372036854775808 ≤ c ∧ c ≤ 9223372036854775807) (hn : 1 ≤ n ∧ n ≤ 9223372036854775807) :
  Calls Tryz.prog 6 #[.int .i64 c, .int .i64 n] w fun e w' => (∃ r, e = .returned (.int .i64 r) ∧ 0 ≤ r ∧ r < n) ∧ w = w' := by
 by_cases h : c < 0
 ·have hq := Int.emod_nonneg (-(c + 1)) (show n ≠ 0 by omega)
  have hq2 := Int.emod_lt_of_pos (-(c + 1)) (show 0 < n by omega)
  go_enter Tryz.func6, Tryz.ntmps6
  go_wp2
  go_ret
  have e : -((c + 1).tmod n) = -(c + 1) % n := by rw [← Int.neg_tmod, Int.tmod_eq_emod_of_nonneg (by omega)]
  rw [← e] at hq hq2
  exact ⟨⟨_, rfl, hq, hq2⟩, rfl⟩
 ·have hq := Int.emod_nonneg c (show n ≠ 0 by omega)
  have hq2 := Int.emod_lt_of_pos c (show 0 < n by omega)
  go_enter Tryz.func6, Tryz.ntmps6
  go_wp2
  go_ret
  exact ⟨⟨_, rfl, hq, hq2⟩, rfl⟩
set_option maxHeartbeats 1600000 in
theorem gets_walk (k : Int) (s : List UInt8) (w : World) (hk : -9223372036854775808 ≤ k ∧ k ≤ 9223372036854775807) : Calls Tryz.prog 3 #[.int .i64 k, .string ⟨s.toArray⟩] w fun e w' => e = .returned (.bool true) ∧ Below w.heap.size w w' := by
 have sz := str_size' s
 by_cases hs : s.length ≤ 65536
 ·have hng : ¬ ((65536 : Int) < (s.length : Int)) := by omega
  go_enter Tryz.func3, Tryz.ntmps3
  go_wp2_with fail
  refine (lpick_any k 15 w hk (by omega)).mono ?_
  rintro e w1 ⟨⟨r, rfl, _⟩, rfl⟩
  have KP : Calls Tryz.prog 5 #[.int .i64 r, .string ⟨s.toArray⟩] w (PairQ s w) := lpair_q r s w hs
  go_wp2_with fail
  refine KP.mono ?_
  rintro e w2 ⟨er, pe, out, rfl, b2, hb⟩
  have bw := (b2.alloc b2.size (.cells #[.string ⟨#[]⟩, .int .i64 er, .int .i64 pe, .string ⟨out.toArray⟩] 24))
  have bw := bw.alloc bw.size (.cells #[.string ⟨#[]⟩, .int .i64 er, .int .i64 pe, .string ⟨out.toArray⟩] 24)
  clear KP hb
  simp only [gotC, str]
  go_wp2
  go_ret
  exact ⟨by simp, bw⟩
 ·have hg : (65536 : Int) < (s.length : Int) := by omega
  go_enter Tryz.func3, Tryz.ntmps3
  go_wp2
  go_ret
  exact ⟨rfl, Below.refl _ _⟩
theorem put300 (w : World) : Calls Tryz.prog 7 #[.int .i64 300] w fun e w' => e = .returned (.tuple #[.string ⟨#[2, 1, 44]⟩, .int .i64 0]) ∧ Below w.heap.size w w' := by
 refine (wputNumber_n.2 0 [.i 300] w (show fitsAll [numC] [.i 300] by simp [fitsAll, Sc.fits]) (fun f hf => by simp at hf; subst hf; simp [Fld.lies])).mono ?_
 rintro e w' ⟨out, er, rfl, hb, ⟨_, rfl, rfl⟩ | ⟨h, _⟩⟩
 ·exact ⟨by kernel_rfl, hb⟩
 ·exact absurd ⟨300, rfl, rfl⟩ h
theorem get300 (w : World) : Calls Tryz.prog 8 #[.string ⟨#[2, 1, 44]⟩] w fun e w' => e = .returned (.tuple #[.int .i64 300, .int .i64 0]) ∧ Below w.heap.size w w' := by
 have hr : readAll [numC] [2, 1, 44] = .ok ([.i 300], []) := by kernel_rfl
 refine (wgetNumber_c.2 [2, 1, 44] w (by simp)).mono ?_
 rintro e w' ⟨fs, er, rfl, hb, hl, hf, hP⟩
 refine ⟨?_, hb⟩
 rcases hP with ⟨h, _⟩ | ⟨vs, c, r, h, _⟩ | ⟨vs, h, ⟨_, rfl, h3⟩ | ⟨h2, _⟩⟩
 ·have h : readAll [numC] [2, 1, 44] = .error er := h
  rw [hr] at h; cases h
 ·have h : readAll [numC] [2, 1, 44] = .ok (vs, c :: r) := h
  rw [hr] at h
  injection h with h
  injection h with _ h
  cases h
 ·have h : readAll [numC] [2, 1, 44] = .ok (vs, []) := h
  rw [hr] at h
  injection h with h
  injection h with h _
  obtain ⟨n, rfl⟩ := int_of fs hf
  have : n = 300 := by
   rw [← h] at h3
   simpa [intF, pvAll, Fld.pv] using h3
  rw [this]
  rfl
 ·have h : readAll [numC] [2, 1, 44] = .ok (vs, []) := h
  rw [hr] at h
  injection h with h
  injection h with h _
  exact absurd ⟨(300 : Int), by rw [← h]; rfl, rfl⟩ h2
set_option maxHeartbeats 3200000 in
theorem back_walk (k : Int) (s : List UInt8) (w : World) (hk : -9223372036854775808 ≤ k ∧ k ≤ 9223372036854775807) : Calls Tryz.prog 4 #[.int .i64 k, .string ⟨s.toArray⟩] w fun e w' => e = .returned (.bool true) ∧ Below w.heap.size w w' := by
 have sz := str_size' s
 by_cases hs : s.length ≤ 65536
 ·have hng : ¬ ((65536 : Int) < (s.length : Int)) := by omega
  go_enter Tryz.func4, Tryz.ntmps4
  go_wp2_with fail
  refine (lpick_any k 15 w hk (by omega)).mono ?_
  rintro e w1 ⟨⟨r, rfl, _⟩, rfl⟩
  have KP : Calls Tryz.prog 5 #[.int .i64 r, .string ⟨s.toArray⟩] w (PairQ s w) := lpair_q r s w hs
  go_wp2_with fail
  refine KP.mono ?_
  clear KP
  rintro e w2 ⟨er, pe, out, rfl, b2, hb⟩
  have bw := (b2.alloc b2.size (.cells #[.string ⟨#[]⟩, .int .i64 er, .int .i64 pe, .string ⟨out.toArray⟩] 24))
  have bw := bw.alloc bw.size (.cells #[.string ⟨#[]⟩, .int .i64 er, .int .i64 pe, .string ⟨out.toArray⟩] 24)
  have k5 := (Blk.new w2 #[.string ⟨#[]⟩, .int .i64 er, .int .i64 pe, .string ⟨out.toArray⟩] 24).alloc (.cells #[.string ⟨#[]⟩, .int .i64 er, .int .i64 pe, .string ⟨out.toArray⟩] 24)
  have HB : Hid (er = 0 → pe = 0 ∧ out = s) := hb
  clear hb b2
  simp only [gotC, str]
  go_wp2_with fail
  generalize (w2.alloc (.cells #[.string ⟨#[]⟩, .int .i64 er, .int .i64 pe, .string ⟨out.toArray⟩] 24)).alloc (.cells #[.string ⟨#[]⟩, .int .i64 er, .int .i64 pe, .string ⟨out.toArray⟩] 24) = W at *
  refine (put300 W).mono ?_
  rintro e w3 ⟨rfl, b3⟩
  have k6 := k5.below b3 k5.lt
  have bw3 := bw.trans (b3.mono bw.size)
  clear k5 bw b3
  go_wp2_with fail
  refine (get300 w3).mono ?_
  rintro e w4 ⟨rfl, b4⟩
  have k7 := k6.below b4 k6.lt
  have bw4 := bw3.trans (b4.mono bw3.size)
  clear k6 bw3 b4
  have c1 : w4.cell? ⟨w2.heap.size, 1, none⟩ = some (.int .i64 er) := (k7.cell 1).trans rfl
  have c2 : w4.cell? ⟨w2.heap.size, 2, none⟩ = some (.int .i64 pe) := (k7.cell 2).trans rfl
  have c3 : w4.cell? ⟨w2.heap.size, 3, none⟩ = some (.string ⟨out.toArray⟩) := (k7.cell 3).trans rfl
  have z2 := k7.lt
  clear k7
  by_cases he : er = 0
  ·obtain ⟨rfl, rfl⟩ := HB.out he
   subst he
   clear HB
   go_wp2
   go_ret
   exact ⟨by simp, bw4⟩
  ·have hne : (er != 0) = true := by simpa using he
   have hne2 : (er == 0) = false := by simpa using he
   clear HB
   go_wp2
   go_ret
   exact ⟨by simp, bw4⟩
 ·have hg : (65536 : Int) < (s.length : Int) := by omega
  go_enter Tryz.func4, Tryz.ntmps4
  go_wp2
  go_ret
  exact ⟨rfl, Below.refl _ _⟩
end Go.Proofs.YtackcbpabjhmpaaGreat
