import Derived.Test.YtackcbpabjhmpaaGreatM17
namespace Go.Proofs.YtackcbpabjhmpaaGreat
open Go.RowKit
set_option linter.unusedVariables false
set_option linter.unusedSimpArgs false
def resSc : List Sc := [numC] ++ ([numC] ++ ([numC] ++ [.list 64 pairSc]))
theorem st_via {N id1 id2 c1 c2 sc i1 i2 f k s ty sv gb vb a : Nat} {p1 p2 p3 o1 o2 o3 : Oper} {rest : Code} {L : List (Nat × Value)} {ts : Array TypeId} {done one : List Sc} {fs : List Fld} {B s0 : List UInt8} {E0 E : Int} {w0 w : World} {cs : Array Value} {t : TypeId} {A : Act} {Q : Exit → Act → World → Prop}
  (hC : RdC f [] hdv one) (h1 : Is p1 (some c1) (.move (.tmp 0))) (h2 : Is p2 (some c2) (.call { callee := .value (.func f), args := #[.tmp c1], argTypes := ts })) (h3 : Is p3 (some sc) (.assign (.tmp c2))) (h4 : Is o1 (some i1) (.move (.tmp sc))) (h5 : Is o2 (some i2) (.fieldAddr s (.tmp sv) k)) (h6 : Is o3 none (.store ty (.tmp i2) (.tmp i1)))
  (chk : (freeOf [c1, c2, sc, i1, i2] L && decide (c1 < N) && decide (c2 < N) && decide (sc < N) && decide (i1 < N) && decide (i2 < N) && decide (i2 ≠ i1)) = true) (hoff : fldOff Tryz.prog s k = some done.length) (hsz : (Tryz.prog.info? ty).map (·.size) = some one.length) (hcs : done.length + one.length ≤ cs.size)
  (m0 : (0, ptr gb) ∈ L) (mv : (sv, ptr vb) ∈ L) (F : Fr N L A) (S : Sf gb vb B s0 E0 w0 cs t done fs a E w) (hL : B.length ≤ 1099511627000)
  (K : ∀ A' gs a' E' w', Fr N L A' → But (fun k => k = gb ∨ k = vb) w w' → Sf gb vb B s0 E0 w0 cs t (done ++ one) (fs ++ gs) a' E' w' → rest.wp Tryz.prog Q A' w') :
  (Code.seq (Code.region id1 #[p1, p2, p3] false) (Code.seq (Code.region id2 #[o1, o2, o3] false) rest)).wp Tryz.prog Q A w := by
 simp only [Bool.and_eq_true, decide_eq_true_eq] at chk
 obtain ⟨⟨⟨⟨⟨⟨f1, d1⟩, d2⟩, d3⟩, d4⟩, d5⟩, d6⟩ := chk
 refine wp_seq (wp_region_list ?_)
 show wpList _ _ _ [p1, p2, p3] _ _
 refine ol_move h1.2.2 (.inl h1.2.1) ?_
 rw [h1.1, F.get m0]
 have F1 := F.put (v := ptr gb) f1 (show c1 ∈ _ by simp)
 refine ol_call h2.2.2 hC.1 h2.2.1 (vs := #[ptr gb]) (by rw [List.map_toArray]; simp only [List.map_cons, List.map_nil]; rw [eval_put_self (by rw [F.1]; exact d1)]) (hC.2.2 gb B a E w S.g S.pg.1 hL) ?_
 rintro e w1 ⟨gs, a1, E1, rfl, g1, b1, l1, p1', z1⟩
 refine ⟨_, rfl, ?_⟩
 rw [h2.1]
 have hw := hC.2.1 gs (fits_len z1)
 generalize hdv (gs.map Fld.val).toArray = V at hw
 have F2 := F1.put (v := V) f1 (show c2 ∈ _ by simp)
 refine ol_move h3.2.2 (.inr h3.2.1) ?_
 rw [h3.1, eval_put_self (by rw [F1.1]; exact d2)]
 have F3 := F2.put (v := V) f1 (show sc ∈ _ by simp)
 have q3 : (Act.put (Act.put (A.put (some c1) (ptr gb)) (some c2) V) (some sc) V).eval (.tmp sc) = V := eval_put_self (by rw [F2.1]; exact d3)
 generalize Act.put (Act.put (A.put (some c1) (ptr gb)) (some c2) V) (some sc) V = A3 at *
 refine wpList_nil ?_
 show Code.wp _ _ _ _ _
 refine wp_seq (wp_region_list ?_)
 show wpList _ _ _ [o1, o2, o3] _ _
 refine ol_move h4.2.2 (.inl h4.2.1) ?_
 rw [h4.1, q3]
 have F4 := F3.put (v := V) f1 (show i1 ∈ _ by simp)
 have q4 : (A3.put (some i1) V).eval (.tmp i1) = V := eval_put_self (by rw [F3.1]; exact d4)
 generalize A3.put (some i1) V = A4 at *
 refine ol_fld h5.2.2 h5.2.1 (F4.get mv) hoff ?_
 rw [h5.1]
 have F5 := F4.put (v := .pointer (some ⟨vb, done.length, none⟩)) f1 (show i2 ∈ _ by simp)
 have x1 := b1.blk S.x (fun q => by have := S.old; have := S.new; omega)
 have hlen := fits_len z1
 refine ol_store h6.2.2 h6.1 h6.2.1 (eval_put_self (by rw [F4.1]; exact d5)) ((eval_put d6).trans q4) ?_ ?_ ?_ ?_
 ·rw [hw]
  exact x1.thereAt _ _ (by rw [putAt_size]; simp [hlen]; omega)
 ·rw [hw, hsz]
  simp [hlen]
 ·rw [hw]
  exact flds_one gs
 rw [hw]
 exact wpList_nil (K _ gs a1 E1 _ F5 ((b1.mono fun _ q => .inl q).trans ((but_cells vb _ _ _).mono fun _ q => .inr q)) (S.step g1 b1 l1 ⟨p1', z1⟩ (but_cells vb _ _ _) (fun c1 hc => hc.putCells _ _ _ _)))
set_option maxRecDepth 4000 in
set_option maxHeartbeats 3200000 in
theorem gresult_c : RdC 211 [] .agg resSc := by
 refine ⟨by kernel_rfl, fun _ _ => rfl, fun gb B a E w k ha hL => ?_⟩
 refine calls_of_wp Tryz.func211 rfl ?_
 refine st_open (SC := resSc) (I rfl) (I rfl) (I rfl) (I rfl) rfl (by kernel_rfl) (by kernel_rfl) (fr_one (v := ptr gb) Tryz.ntmps211 (by decide)) k ha ?_
 have hg : gb < w.heap.size := Blk.lt k
 clear k ha
 intro A w1 F S R
 refine st_via gnum_c (I rfl) (I rfl) (I rfl) (I rfl) (I rfl) (I rfl) rfl (by kernel_rfl) (by kernel_rfl) (by decide) (by simp) (by simp) F S hL ?_
 clear F
 intro A gs a1 E1 w2 F b S2
 have R := b.blk R (by omega)
 clear b S
 have S := S2
 clear S2
 refine wp_seq (st_field gnum_c (I rfl) (I rfl) (I rfl) (I rfl) rfl (by kernel_rfl) (by kernel_rfl) (by decide) (by simp) (by simp) F S hL ?_)
 clear F
 intro A gs a1 E1 w2 F b S2
 have R := b.blk R (by omega)
 clear b S
 have S := S2
 clear S2
 refine wp_seq (st_field gnum_c (I rfl) (I rfl) (I rfl) (I rfl) rfl (by kernel_rfl) (by kernel_rfl) (by decide) (by simp) (by simp) F S hL ?_)
 clear F
 intro A gs a1 E1 w2 F b S2
 have R := b.blk R (by omega)
 clear b S
 have S := S2
 clear S2
 refine st_list (m := 64) (els := pairSc) (by decide) (fun n A w k a E Q F g K => ts_plain (k := k) (n := n) (I rfl) (I rfl) (I rfl) rfl (by simp) (by simp) F fun A' F' h => K A' _ F' h (fun q => by simpa using q) (fun q => .inl (by simpa using q))) (fun n u a1 E1 h0 hm hu1 hu2 hne => bd_two gnum_c gnum_c (I rfl) (I rfl) (I rfl) (I rfl) (I rfl) (I rfl) (I rfl) (I rfl) (I rfl) (I rfl) (I rfl) (I rfl) (I rfl) (I rfl) (I rfl) (I rfl) (I rfl) (I rfl) rfl (fun _ => rfl) (fun _ _ => rfl) (fun _ _ => rfl) (fun _ _ => rfl) (by kernel_rfl) (by kernel_rfl) (by kernel_rfl) (by kernel_rfl) (by kernel_rfl) (by kernel_rfl) (by kernel_rfl) (by kernel_rfl) (by kernel_rfl) (by decide) (by kernel_rfl) (by simp) (by simp) (by omega) hu1 hu2 hne (by rw [putAt_size, zArr_size]; decide) hL) (I rfl) (I rfl) (I rfl) (I rfl) (I rfl) (I rfl) (I rfl) rfl rfl (by simp) (by decide) F S hL ?_
 clear F
 intro A la lc es a1 E1 w2 F b S2
 have R := b.blk R (by omega)
 clear b S
 have S := S2
 clear S2
 exact st_close (SC := resSc) (I rfl) (I rfl) Tryz.results211 (by kernel_rfl) (by kernel_rfl) (zArr_size _) rfl (by simp) (by simp) F S R (by omega)
def cellT (P : Program) (t : TypeId) : Bool := match P.underlying t with | some d => !d.isRow | none => false
theorem cellT_out {P : Program} {t : TypeId} (h : cellT P t = true) : ∃ d, P.underlying t = some d ∧ d.isRow = false := by
 unfold cellT at h
 cases hu : P.underlying t with
 | none => rw [hu] at h; cases h
 | some d => rw [hu] at h; exact ⟨d, rfl, by simpa using h⟩
theorem st_eql {N id i1 i2 i3 s sv kf vb off : Nat} {ti tj tk : TypeId} {o1 o2 o3 : Oper} {L : List (Nat × Value)} {k c : Int} {A : Act} {w : World} {Q : Exit → Act → World → Prop}
  (h1 : Is o1 (some i1) (.fieldAddr s (.tmp sv) kf)) (h2 : Is o2 (some i2) (.load ti (.tmp i1))) (h3 : Is o3 (some i3) (.binOp .eql tj (.tmp i2) (.const (.int .i64 c)) tk))
  (chk : (freeOf [i1, i2, i3] L && decide (i1 < N) && decide (i2 < N) && decide (i3 < N)) = true) (hoff : fldOff Tryz.prog s kf = some off) (ht : cellT Tryz.prog ti = true) (mv : (sv, ptr vb) ∈ L) (F : Fr N L A) (hc : w.cell? ⟨vb, off, none⟩ = some (.int .i64 k))
  (K : ∀ A', Fr N L A' → A'.eval (.tmp i3) = .bool (k == c) → Q .normal A' w) : (Code.region id #[o1, o2, o3] false).wp Tryz.prog Q A w := by
 simp only [Bool.and_eq_true, decide_eq_true_eq] at chk
 obtain ⟨⟨⟨c1, d1⟩, d2⟩, d3⟩ := chk
 obtain ⟨d, hu, hd⟩ := cellT_out ht
 refine wp_region_list ?_
 show wpList _ _ _ [o1, o2, o3] _ _
 refine ol_fld h1.2.2 h1.2.1 (F.get mv) hoff ?_
 rw [h1.1]
 have F1 := F.put (v := .pointer (some ⟨vb, off, none⟩)) c1 (show i1 ∈ _ by simp)
 refine ol_cell h2.2.2 h2.2.1 (eval_put_self (by rw [F.1]; exact d1)) hc hu hd ?_
 rw [h2.1]
 have F2 := F1.put (v := .int .i64 k) c1 (show i2 ∈ _ by simp)
 refine ol_val h3.2.2 (run_eql h3.2.1 (eval_put_self (by rw [F1.1]; exact d2)) rfl) ?_
 rw [h3.1]
 exact wpList_nil (K _ (F2.put c1 (by simp)) (eval_put_self (by rw [F2.1]; exact d3)))
theorem st_eql2 {N id i1 i2 i3 i4 i5 i6 i7 tt s sv kf vb off : Nat} {ti tj tk tl tm : TypeId} {o1 o2 o3 o4 o5 o6 o7 o8 : Oper} {L : List (Nat × Value)} {k c c' : Int} {A : Act} {w : World} {Q : Exit → Act → World → Prop}
  (h1 : Is o1 (some i1) (.fieldAddr s (.tmp sv) kf)) (h2 : Is o2 (some i2) (.load ti (.tmp i1))) (h3 : Is o3 (some i3) (.binOp .eql tj (.tmp i2) (.const (.int .i64 c)) tk)) (h4 : Is o4 (some i4) (.move (.tmp i3)))
  (h5 : o5.dst = some i5 ∧ o5.op = .fieldAddr s (.tmp sv) kf ∧ o5.guard = some (3, false)) (h6 : o6.dst = some i6 ∧ o6.op = .load ti (.tmp i5) ∧ o6.guard = some (3, false)) (h7 : o7.dst = some i7 ∧ o7.op = .binOp .eql tl (.tmp i6) (.const (.int .i64 c')) tm ∧ o7.guard = some (3, false)) (h8 : Is o8 (some tt) (.pick (.tmp i4) (.const (.bool true)) (.tmp i7)))
  (chk : (freeOf [i1, i2, i3, i4, i5, i6, i7, tt] L && decide (i1 < i2) && decide (i2 < i3) && decide (i3 < i4) && decide (i4 < i5) && decide (i5 < i6) && decide (i6 < i7) && decide (i7 < tt) && decide (tt < N)) = true) (hoff : fldOff Tryz.prog s kf = some off) (ht : cellT Tryz.prog ti = true) (mv : (sv, ptr vb) ∈ L) (F : Fr N L A) (hc : w.cell? ⟨vb, off, none⟩ = some (.int .i64 k))
  (K : ∀ A', Fr N L A' → A'.eval (.tmp tt) = .bool (k == c || k == c') → Q .normal A' w) : (Code.region id #[o1, o2, o3, o4, o5, o6, o7, o8] false).wp Tryz.prog Q A w := by
 simp only [Bool.and_eq_true, decide_eq_true_eq] at chk
 obtain ⟨⟨⟨⟨⟨⟨⟨⟨c1, d1⟩, d2⟩, d3⟩, d4⟩, d5⟩, d6⟩, d7⟩, d8⟩ := chk
 obtain ⟨d, hu, hd⟩ := cellT_out ht
 refine wp_region_list ?_
 show wpList _ _ _ [o1, o2, o3, o4, o5, o6, o7, o8] _ _
 refine ol_fld h1.2.2 h1.2.1 (F.get mv) hoff ?_
 rw [h1.1]
 have F1 := F.put (v := .pointer (some ⟨vb, off, none⟩)) c1 (show i1 ∈ _ by simp)
 refine ol_cell h2.2.2 h2.2.1 (eval_put_self (by rw [F.1]; omega)) hc hu hd ?_
 rw [h2.1]
 have F2 := F1.put (v := .int .i64 k) c1 (show i2 ∈ _ by simp)
 refine ol_val h3.2.2 (run_eql h3.2.1 (eval_put_self (by rw [F1.1]; omega)) rfl) ?_
 rw [h3.1]
 generalize Act.put _ (some i2) _ = A2 at F2 ⊢
 have F3 := F2.put (v := .bool (k == c)) c1 (show i3 ∈ _ by simp)
 have q3 : (A2.put (some i3) (.bool (k == c))).eval (.tmp i3) = .bool (k == c) := eval_put_self (by rw [F2.1]; omega)
 generalize A2.put (some i3) (.bool (k == c)) = A3 at *
 refine ol_move h4.2.2 (.inl h4.2.1) ?_
 rw [h4.1, q3]
 have F4 := F3.put (v := .bool (k == c)) c1 (show i4 ∈ _ by simp)
 have q4 : (A3.put (some i4) (.bool (k == c))).eval (.tmp i4) = .bool (k == c) := eval_put_self (by rw [F3.1]; omega)
 generalize A3.put (some i4) (.bool (k == c)) = A4 at *
 have hdst : ((#[o1, o2, o3, o4, o5, o6, o7, o8] : Array Oper)[3]?).bind (·.dst) = some i4 := h4.1
 generalize (#[o1, o2, o3, o4, o5, o6, o7, o8] : Array Oper) = ops at *
 by_cases hk : k = c
 ·have hb : (k == c) = true := by simpa using hk
  rw [hb] at q4 K
  refine ol_off h5.2.2 hdst (by rw [F4.1]; omega) q4 ?_
  rw [h5.1]
  have F5 := F4.put (v := undef) c1 (show i5 ∈ _ by simp)
  have q5 : (A4.put (some i5) undef).eval (.tmp i4) = .bool true := (eval_put (by omega)).trans q4
  generalize A4.put (some i5) undef = A5 at *
  refine ol_off h6.2.2 hdst (by rw [F5.1]; omega) q5 ?_
  rw [h6.1]
  have F6 := F5.put (v := undef) c1 (show i6 ∈ _ by simp)
  have q6 : (A5.put (some i6) undef).eval (.tmp i4) = .bool true := (eval_put (by omega)).trans q5
  generalize A5.put (some i6) undef = A6 at *
  refine ol_off h7.2.2 hdst (by rw [F6.1]; omega) q6 ?_
  rw [h7.1]
  have F7 := F6.put (v := undef) c1 (show i7 ∈ _ by simp)
  have q7 : (A6.put (some i7) undef).eval (.tmp i4) = .bool true := (eval_put (by omega)).trans q6
  generalize A6.put (some i7) undef = A7 at *
  have ec : A7.eval (.const (.bool true)) = .bool true := rfl
  refine ol_val h8.2.2 (w' := w) (v := .bool true) (by unfold execOp; rw [h8.2.1]; simp [q7, asBool, ec]) ?_
  rw [h8.1]
  exact wpList_nil (K _ (F7.put c1 (by simp)) (eval_put_self (by rw [F7.1]; omega)))
 ·have hb : (k == c) = false := by simpa using hk
  rw [hb] at q4 K
  refine ol_on h5.2.2 hdst (by rw [F4.1]; omega) q4 (w' := w) (v := .pointer (some ⟨vb, off, none⟩)) (by unfold execOp; rw [h5.2.1]; simp only [F4.get mv, ptr]; simp [Sem.run_bind, run_fld hoff]) ?_
  rw [h5.1]
  have F5 := F4.put (v := .pointer (some ⟨vb, off, none⟩)) c1 (show i5 ∈ _ by simp)
  have q5 : (A4.put (some i5) (.pointer (some ⟨vb, off, none⟩))).eval (.tmp i4) = .bool false := (eval_put (by omega)).trans q4
  have e5 : (A4.put (some i5) (.pointer (some ⟨vb, off, none⟩))).eval (.tmp i5) = .pointer (some ⟨vb, off, none⟩) := eval_put_self (by rw [F4.1]; omega)
  generalize A4.put (some i5) (.pointer (some ⟨vb, off, none⟩)) = A5 at *
  refine ol_on h6.2.2 hdst (by rw [F5.1]; omega) q5 (w' := w) (v := .int .i64 k) (by
   unfold execOp
   rw [h6.2.1]
   simp only [e5]
   have hagg : (isAgg ti).run Tryz.prog w = .ok false w := by
    unfold isAgg
    rw [Sem.run_bind, run_underlying hu w]
    cases d <;> simp_all [TypeDesc.isRow]
   simp [Instr.loadAt, Instr.sureAddr, loadVar, hagg, hc]) ?_
  rw [h6.1]
  have F6 := F5.put (v := .int .i64 k) c1 (show i6 ∈ _ by simp)
  have q6 : (A5.put (some i6) (.int .i64 k)).eval (.tmp i4) = .bool false := (eval_put (by omega)).trans q5
  have e6 : (A5.put (some i6) (.int .i64 k)).eval (.tmp i6) = .int .i64 k := eval_put_self (by rw [F5.1]; omega)
  generalize A5.put (some i6) (.int .i64 k) = A6 at *
  refine ol_on h7.2.2 hdst (by rw [F6.1]; omega) q6 (run_eql h7.2.1 e6 rfl) ?_
  rw [h7.1]
  have F7 := F6.put (v := .bool (k == c')) c1 (show i7 ∈ _ by simp)
  have q7 : (A6.put (some i7) (.bool (k == c'))).eval (.tmp i4) = .bool false := (eval_put (by omega)).trans q6
  have e7 : (A6.put (some i7) (.bool (k == c'))).eval (.tmp i7) = .bool (k == c') := eval_put_self (by rw [F6.1]; omega)
  generalize A6.put (some i7) (.bool (k == c')) = A7 at *
  refine ol_val h8.2.2 (w' := w) (v := .bool (k == c')) (by unfold execOp; rw [h8.2.1]; simp [q7, e7, asBool]) ?_
  rw [h8.1]
  exact wpList_nil (K _ (F7.put c1 (by simp)) (eval_put_self (by rw [F7.1]; omega)))
def GotR (gb : Nat) (B : List UInt8) (a : Nat) (E : Int) (w : World) (e : Ending) (w' : World) : Prop :=
 ∃ k fs a' E', e = .returned (.agg (putAt (putAt (zArr recZ) 0 [.int .i64 k]) (recOff k) (fs.map Fld.val))) ∧ Gt w' gb B a' E' ∧ But (fun k => k = gb) w w' ∧ lieAll w.heap.size w' fs ∧ fitsAll [numC] [.i k] ∧ fitsAll (recSc k) fs ∧ a' ≤ B.length ∧
  ((E ≠ 0 ∧ E' = E) ∨ (E = 0 ∧ ((∃ er, readRec (B.drop a) = .error er ∧ E' = er ∧ er ≠ 0) ∨ (∃ r, readRec (B.drop a) = .ok ((k, pvAll fs), r) ∧ E' = 0 ∧ B.drop a' = r))))
theorem pgr_of {B : List UInt8} {a a1 a' : Nat} {E E1 E' k : Int} {fs : List Fld} (h : PgS B [numC] (B.drop a) E [.i k] a1 E1) (g : PgS B (recSc k) (B.drop a1) E1 fs a' E') :
  ((E ≠ 0 ∧ E' = E) ∨ (E = 0 ∧ ((∃ er, readRec (B.drop a) = .error er ∧ E' = er ∧ er ≠ 0) ∨ (∃ r, readRec (B.drop a) = .ok ((k, pvAll fs), r) ∧ E' = 0 ∧ B.drop a' = r)))) := by
 obtain ⟨_, h⟩ := h
 obtain ⟨_, g⟩ := g
 have hnum : ∀ s, readAll [numC] s = match numP 1099511627775 s with | .error e => .error e | .ok (n, r) => .ok ([.i n], r) := fun s => by
  rw [readAll_one, Sc.read]
  cases numP 1099511627775 s <;> rfl
 rw [hnum] at h
 rcases h with ⟨h1, rfl⟩ | ⟨rfl, ⟨er, h1, rfl, h3⟩ | ⟨r, h1, rfl, h3⟩⟩
 ·rcases g with ⟨_, rfl⟩ | ⟨g1, _⟩
  ·exact .inl ⟨h1, rfl⟩
  ·exact absurd g1 h1
 ·rcases g with ⟨_, rfl⟩ | ⟨g1, _⟩
  ·refine .inr ⟨rfl, .inl ⟨E', ?_, rfl, h3⟩⟩
   unfold readRec
   cases hn : numP 1099511627775 (B.drop a) with
   | error e => rw [hn] at h1; simp only at h1; injection h1 with h1; rw [h1]
   | ok p => rw [hn] at h1; simp only at h1; cases h1
  ·exact absurd g1 h3
 ·have hk : numP 1099511627775 (B.drop a) = .ok (k, r) := by
   cases hn : numP 1099511627775 (B.drop a) with
   | error e => rw [hn] at h1; cases h1
   | ok p =>
    obtain ⟨n, q⟩ := p
    rw [hn] at h1
    simp [pvAll, Fld.pv] at h1
    rw [h1.1, h1.2]
  rw [h3] at g
  rcases g with ⟨g1, _⟩ | ⟨_, ⟨er, g1, rfl, g3⟩ | ⟨q, g1, rfl, g3⟩⟩
  ·exact absurd rfl g1
  ·exact .inr ⟨rfl, .inl ⟨E', by unfold readRec; rw [hk]; simp only; rw [g1], rfl, g3⟩⟩
  ·exact .inr ⟨rfl, .inr ⟨q, by unfold readRec; rw [hk]; simp only; rw [g1], rfl, g3⟩⟩
theorem rec_end {gb rb vb : Nat} {B : List UInt8} {a a1 a' : Nat} {E E1 E' k : Int} {gs : List Fld} {w w1 w2 w3 : World} (hg : gb < w.heap.size) (hrb : rb = w.heap.size) (hvb : vb = w.heap.size + 1) (S : Sf gb vb B (B.drop a) E w (zArr recZ) 158 ([] ++ [numC]) [.i k] a1 E1 w1) (g2 : Gt w2 gb B a' E') (b2 : But (fun k => k = gb) w1 w2) (l2 : lieAll w1.heap.size w2 gs) (p2 : PgS B (recSc k) (B.drop a1) E1 gs a' E') (z2 : fitsAll (recSc k) gs)
  (hb : But (fun k => k = rb) (w2.setCells vb (recOff k) (gs.map Fld.val)) w3) : GotR gb B a E w (.returned (.agg (putAt (putAt (zArr recZ) 0 [.int .i64 k]) (recOff k) (gs.map Fld.val)))) w3 := by
 have bv := but_cells vb (gs.map Fld.val) (recOff k) w2
 have h1 := S.but.size
 have hv1 := S.x.lt
 refine ⟨k, gs, a', E', rfl, hb.blk (bv.blk g2 (by omega)) (by omega), ((S.but.trans b2).trans_new bv (fun k hk q => by omega)).trans_new hb (fun k hk q => by omega), ?_, S.fit, z2, p2.1, pgr_of S.pg p2⟩
 exact ((l2.hi (Hi.of_but bv (fun k q => by omega))).hi (Hi.of_but hb (fun k q => by omega))).mono (by omega)
theorem putAt_one : ∀ {vs : List Value} {cs : Array Value} {o : Nat}, (∀ u ∈ cs.toList, u.oneCell' = true) → (∀ u ∈ vs, u.oneCell' = true) → ∀ u ∈ (putAt cs o vs).toList, u.oneCell' = true
 | [], cs, o, h, g => h
 | v :: vs, cs, o, h, g => putAt_one (vs := vs) (cs := cs.setIfInBounds o v) (o := o + 1) (fun u hu => by
   rw [Array.toList_setIfInBounds] at hu
   rcases List.mem_or_eq_of_mem_set hu with q | q
   ·exact h u q
   ·rw [q]; exact g v (by simp)) (fun u hu => g u (by simp [hu]))
set_option maxRecDepth 4000 in
set_option maxHeartbeats 3200000 in
theorem grecord_g (gb : Nat) (B : List UInt8) (a : Nat) (E : Int) (w : World) (k : Gt w gb B a E) (ha : a ≤ B.length) (hL : B.length ≤ 1099511627000) : Calls Tryz.prog 188 #[ptr gb] w (GotR gb B a E w) := by
 refine calls_of_wp Tryz.func188 rfl ?_
 refine st_open (SC := recZ) (I rfl) (I rfl) (I rfl) (I rfl) rfl (by kernel_rfl) (by kernel_rfl) (fr_one (v := ptr gb) Tryz.ntmps188 (by decide)) k ha ?_
 have hg : gb < w.heap.size := Blk.lt k
 clear k ha
 intro A w1 F S R
 refine wp_seq (st_field gnum_c (I rfl) (I rfl) (I rfl) (I rfl) rfl (by kernel_rfl) (by kernel_rfl) (by decide) (by simp) (by simp) F S hL ?_)
 clear F
 intro A gs a1 E1 w2 F b S2
 have R := b.blk R (by omega)
 clear b S
 obtain ⟨k, rfl⟩ := int_of gs S2.fit
 have S : Sf gb (w.heap.size + 1) B (B.drop a) E w (zArr recZ) 158 ([] ++ [numC]) [.i k] a1 E1 w2 := S2
 clear S2
 have kx : Blk w2 (w.heap.size + 1) (putAt (zArr recZ) 0 [.int .i64 k]) 158 := S.x
 have hsz : (putAt (zArr recZ) 0 [.int .i64 k]).size = 38 := by rw [putAt_size]; rfl
 have off0 : ∀ (n : Nat) (vs : List Value), 1 ≤ n → (putAt (putAt (zArr recZ) 0 [.int .i64 k]) n vs)[0]? = some (.int .i64 k) := fun n vs hn => by
  rw [putAt_off _ _ _ _ (.inl (by omega))]
  exact putAt_in [.int .i64 k] (zArr recZ) 0 0 (by show 1 ≤ (zArr recZ).size; decide) (by simp)
 have hone : ∀ (n : Nat) (gs : List Fld), ∀ u ∈ (putAt (putAt (zArr recZ) 0 [.int .i64 k]) n (gs.map Fld.val)).toList, u.oneCell' = true := fun n gs u hu => by
  refine putAt_one (putAt_one (fun x hx => ?_) (fun x hx => ?_)) (fun x hx => ?_) u hu
  ·simp only [zArr, List.toList_toArray, List.mem_map] at hx
   obtain ⟨c, _, rfl⟩ := hx
   cases c <;> rfl
  ·rw [List.mem_singleton.1 hx]; rfl
  ·obtain ⟨f, _, rfl⟩ := List.mem_map.1 hx
   exact fld_one f
 have c0 : w2.cell? ⟨w.heap.size + 1, 0, none⟩ = some (.int .i64 k) := by rw [kx.cell]; exact off0 1 [] (by omega)
 have hv := S.x.lt
 by_cases e1 : k = 1
 ·subst e1
  refine wp_seq (wp_seq (st_eql (vb := w.heap.size + 1) (I rfl) (I rfl) (I rfl) rfl (by kernel_rfl) (by kernel_rfl) (by simp) F c0 ?_))
  clear F
  intro A F hb
  show Code.wp _ _ _ _ _
  refine wp_cond_true (hb.trans (by rfl)) (st_part (off := 1) gvote_c (I rfl) (I rfl) (I rfl) (I rfl) rfl (by kernel_rfl) (by kernel_rfl) (by rw [hsz]; decide) (by simp) (by simp) F S.g S.pg.1 kx (by omega) hL ?_)
  clear F
  intro A gs a2 E2 w3 F g2 b2 l2 p2 z2
  show Code.wp _ _ _ _ _
  have kx3 := (b2.blk kx (by omega)).putCells (gs.map Fld.val) 1 _ _
  have bv := but_cells (w.heap.size + 1) (gs.map Fld.val) 1 w3
  have R3 := bv.blk (b2.blk R (by omega)) (by omega)
  have hfin := fun w4 (hb : But (fun k => k = w.heap.size) (w3.setCells (w.heap.size + 1) 1 (gs.map Fld.val)) w4) => rec_end hg rfl rfl S g2 b2 l2 p2 z2 hb
  have c0 : (w3.setCells (w.heap.size + 1) 1 (gs.map Fld.val)).cell? ⟨w.heap.size + 1, 0, none⟩ = some (.int .i64 1) := by rw [kx3.cell]; exact off0 1 _ (by omega)
  have ho := hone 1 gs
  clear bv R kx S g2 b2 l2 p2 z2
  generalize w3.setCells (w.heap.size + 1) 1 (gs.map Fld.val) = w5 at *
  clear hb
  refine wp_seq (wp_seq (st_eql (vb := w.heap.size + 1) (I rfl) (I rfl) (I rfl) rfl (by kernel_rfl) (by kernel_rfl) (by simp) F c0 ?_))
  clear F
  intro A F hb
  show Code.wp _ _ _ _ _
  refine wp_cond_false (hb.trans (by rfl)) (wp_skip ?_)
  clear hb
  show Code.wp _ _ _ _ _
  refine wp_seq (wp_seq (st_eql2 (vb := w.heap.size + 1) (I rfl) (I rfl) (I rfl) (I rfl) (I rfl) (I rfl) (I rfl) (I rfl) rfl (by kernel_rfl) (by kernel_rfl) (by simp) F c0 ?_))
  clear F
  intro A F hb
  show Code.wp _ _ _ _ _
  refine wp_cond_false (hb.trans (by rfl)) (wp_skip ?_)
  clear hb
  show Code.wp _ _ _ _ _
  exact st_give (rb := w.heap.size) (vb := w.heap.size + 1) (I rfl) (I rfl) Tryz.results188 (by kernel_rfl) (by rw [putAt_size, hsz]; kernel_rfl) (by rw [putAt_size, hsz]; rfl) ho rfl (by simp) (by simp) F kx3 R3 hfin
 by_cases e2 : k = 2
 ·subst e2
  refine wp_seq (wp_seq (st_eql (vb := w.heap.size + 1) (I rfl) (I rfl) (I rfl) rfl (by kernel_rfl) (by kernel_rfl) (by simp) F c0 ?_))
  clear F
  intro A F hb
  show Code.wp _ _ _ _ _
  refine wp_cond_false (hb.trans (by rfl)) (wp_skip ?_)
  clear hb
  show Code.wp _ _ _ _ _
  refine wp_seq (wp_seq (st_eql (vb := w.heap.size + 1) (I rfl) (I rfl) (I rfl) rfl (by kernel_rfl) (by kernel_rfl) (by simp) F c0 ?_))
  clear F
  intro A F hb
  show Code.wp _ _ _ _ _
  refine wp_cond_true (hb.trans (by rfl)) (st_part (off := 7) gmotion_c (I rfl) (I rfl) (I rfl) (I rfl) rfl (by kernel_rfl) (by kernel_rfl) (by rw [hsz]; decide) (by simp) (by simp) F S.g S.pg.1 kx (by omega) hL ?_)
  clear F
  intro A gs a2 E2 w3 F g2 b2 l2 p2 z2
  show Code.wp _ _ _ _ _
  have kx3 := (b2.blk kx (by omega)).putCells (gs.map Fld.val) 7 _ _
  have bv := but_cells (w.heap.size + 1) (gs.map Fld.val) 7 w3
  have R3 := bv.blk (b2.blk R (by omega)) (by omega)
  have hfin := fun w4 (hb : But (fun k => k = w.heap.size) (w3.setCells (w.heap.size + 1) 7 (gs.map Fld.val)) w4) => rec_end hg rfl rfl S g2 b2 l2 p2 z2 hb
  have c0 : (w3.setCells (w.heap.size + 1) 7 (gs.map Fld.val)).cell? ⟨w.heap.size + 1, 0, none⟩ = some (.int .i64 2) := by rw [kx3.cell]; exact off0 7 _ (by omega)
  have ho := hone 7 gs
  clear bv R kx S g2 b2 l2 p2 z2
  generalize w3.setCells (w.heap.size + 1) 7 (gs.map Fld.val) = w5 at *
  clear hb
  refine wp_seq (wp_seq (st_eql2 (vb := w.heap.size + 1) (I rfl) (I rfl) (I rfl) (I rfl) (I rfl) (I rfl) (I rfl) (I rfl) rfl (by kernel_rfl) (by kernel_rfl) (by simp) F c0 ?_))
  clear F
  intro A F hb
  show Code.wp _ _ _ _ _
  refine wp_cond_false (hb.trans (by rfl)) (wp_skip ?_)
  clear hb
  show Code.wp _ _ _ _ _
  exact st_give (rb := w.heap.size) (vb := w.heap.size + 1) (I rfl) (I rfl) Tryz.results188 (by kernel_rfl) (by rw [putAt_size, hsz]; kernel_rfl) (by rw [putAt_size, hsz]; rfl) ho rfl (by simp) (by simp) F kx3 R3 hfin
 by_cases e3 : k = 3
 ·subst e3
  refine wp_seq (wp_seq (st_eql (vb := w.heap.size + 1) (I rfl) (I rfl) (I rfl) rfl (by kernel_rfl) (by kernel_rfl) (by simp) F c0 ?_))
  clear F
  intro A F hb
  show Code.wp _ _ _ _ _
  refine wp_cond_false (hb.trans (by rfl)) (wp_skip ?_)
  clear hb
  show Code.wp _ _ _ _ _
  refine wp_seq (wp_seq (st_eql (vb := w.heap.size + 1) (I rfl) (I rfl) (I rfl) rfl (by kernel_rfl) (by kernel_rfl) (by simp) F c0 ?_))
  clear F
  intro A F hb
  show Code.wp _ _ _ _ _
  refine wp_cond_false (hb.trans (by rfl)) (wp_skip ?_)
  clear hb
  show Code.wp _ _ _ _ _
  refine wp_seq (wp_seq (st_eql2 (vb := w.heap.size + 1) (I rfl) (I rfl) (I rfl) (I rfl) (I rfl) (I rfl) (I rfl) (I rfl) rfl (by kernel_rfl) (by kernel_rfl) (by simp) F c0 ?_))
  clear F
  intro A F hb
  show Code.wp _ _ _ _ _
  refine wp_cond_true (hb.trans (by rfl)) (st_part (off := 21) gknown_c (I rfl) (I rfl) (I rfl) (I rfl) rfl (by kernel_rfl) (by kernel_rfl) (by rw [hsz]; decide) (by simp) (by simp) F S.g S.pg.1 kx (by omega) hL ?_)
  clear F
  intro A gs a2 E2 w3 F g2 b2 l2 p2 z2
  show Code.wp _ _ _ _ _
  have kx3 := (b2.blk kx (by omega)).putCells (gs.map Fld.val) 21 _ _
  have bv := but_cells (w.heap.size + 1) (gs.map Fld.val) 21 w3
  have R3 := bv.blk (b2.blk R (by omega)) (by omega)
  have hfin := fun w4 (hb : But (fun k => k = w.heap.size) (w3.setCells (w.heap.size + 1) 21 (gs.map Fld.val)) w4) => rec_end hg rfl rfl S g2 b2 l2 p2 z2 hb
  have c0 : (w3.setCells (w.heap.size + 1) 21 (gs.map Fld.val)).cell? ⟨w.heap.size + 1, 0, none⟩ = some (.int .i64 3) := by rw [kx3.cell]; exact off0 21 _ (by omega)
  have ho := hone 21 gs
  clear bv R kx S g2 b2 l2 p2 z2
  generalize w3.setCells (w.heap.size + 1) 21 (gs.map Fld.val) = w5 at *
  clear hb
  exact st_give (rb := w.heap.size) (vb := w.heap.size + 1) (I rfl) (I rfl) Tryz.results188 (by kernel_rfl) (by rw [putAt_size, hsz]; kernel_rfl) (by rw [putAt_size, hsz]; rfl) ho rfl (by simp) (by simp) F kx3 R3 hfin
 by_cases e4 : k = 4
 ·subst e4
  refine wp_seq (wp_seq (st_eql (vb := w.heap.size + 1) (I rfl) (I rfl) (I rfl) rfl (by kernel_rfl) (by kernel_rfl) (by simp) F c0 ?_))
  clear F
  intro A F hb
  show Code.wp _ _ _ _ _
  refine wp_cond_false (hb.trans (by rfl)) (wp_skip ?_)
  clear hb
  show Code.wp _ _ _ _ _
  refine wp_seq (wp_seq (st_eql (vb := w.heap.size + 1) (I rfl) (I rfl) (I rfl) rfl (by kernel_rfl) (by kernel_rfl) (by simp) F c0 ?_))
  clear F
  intro A F hb
  show Code.wp _ _ _ _ _
  refine wp_cond_false (hb.trans (by rfl)) (wp_skip ?_)
  clear hb
  show Code.wp _ _ _ _ _
  refine wp_seq (wp_seq (st_eql2 (vb := w.heap.size + 1) (I rfl) (I rfl) (I rfl) (I rfl) (I rfl) (I rfl) (I rfl) (I rfl) rfl (by kernel_rfl) (by kernel_rfl) (by simp) F c0 ?_))
  clear F
  intro A F hb
  show Code.wp _ _ _ _ _
  refine wp_cond_true (hb.trans (by rfl)) (st_part (off := 21) gknown_c (I rfl) (I rfl) (I rfl) (I rfl) rfl (by kernel_rfl) (by kernel_rfl) (by rw [hsz]; decide) (by simp) (by simp) F S.g S.pg.1 kx (by omega) hL ?_)
  clear F
  intro A gs a2 E2 w3 F g2 b2 l2 p2 z2
  show Code.wp _ _ _ _ _
  have kx3 := (b2.blk kx (by omega)).putCells (gs.map Fld.val) 21 _ _
  have bv := but_cells (w.heap.size + 1) (gs.map Fld.val) 21 w3
  have R3 := bv.blk (b2.blk R (by omega)) (by omega)
  have hfin := fun w4 (hb : But (fun k => k = w.heap.size) (w3.setCells (w.heap.size + 1) 21 (gs.map Fld.val)) w4) => rec_end hg rfl rfl S g2 b2 l2 p2 z2 hb
  have c0 : (w3.setCells (w.heap.size + 1) 21 (gs.map Fld.val)).cell? ⟨w.heap.size + 1, 0, none⟩ = some (.int .i64 4) := by rw [kx3.cell]; exact off0 21 _ (by omega)
  have ho := hone 21 gs
  clear bv R kx S g2 b2 l2 p2 z2
  generalize w3.setCells (w.heap.size + 1) 21 (gs.map Fld.val) = w5 at *
  clear hb
  exact st_give (rb := w.heap.size) (vb := w.heap.size + 1) (I rfl) (I rfl) Tryz.results188 (by kernel_rfl) (by rw [putAt_size, hsz]; kernel_rfl) (by rw [putAt_size, hsz]; rfl) ho rfl (by simp) (by simp) F kx3 R3 hfin
 refine wp_seq (wp_seq (st_eql (vb := w.heap.size + 1) (I rfl) (I rfl) (I rfl) rfl (by kernel_rfl) (by kernel_rfl) (by simp) F c0 ?_))
 clear F
 intro A F hb
 show Code.wp _ _ _ _ _
 refine wp_cond_false (hb.trans (by simp [e1])) (wp_skip ?_)
 clear hb
 show Code.wp _ _ _ _ _
 refine wp_seq (wp_seq (st_eql (vb := w.heap.size + 1) (I rfl) (I rfl) (I rfl) rfl (by kernel_rfl) (by kernel_rfl) (by simp) F c0 ?_))
 clear F
 intro A F hb
 show Code.wp _ _ _ _ _
 refine wp_cond_false (hb.trans (by simp [e2])) (wp_skip ?_)
 clear hb
 show Code.wp _ _ _ _ _
 refine wp_seq (wp_seq (st_eql2 (vb := w.heap.size + 1) (I rfl) (I rfl) (I rfl) (I rfl) (I rfl) (I rfl) (I rfl) (I rfl) rfl (by kernel_rfl) (by kernel_rfl) (by simp) F c0 ?_))
 clear F
 intro A F hb
 show Code.wp _ _ _ _ _
 refine wp_cond_false (hb.trans (by simp [e3, e4])) (wp_skip ?_)
 clear hb
 show Code.wp _ _ _ _ _
 have a1' : recSc k = [] := by simp [recSc, e1, e2, e3, e4]
 have a2' : recOff k = 0 := by simp [recOff, e1, e2, e3, e4]
 have hfin := fun w4 (hb : But (fun k => k = w.heap.size) w2 w4) => rec_end (gs := []) hg rfl rfl S S.g (But.refl _ _) (lieAll.nil _ _) (by rw [a1']; exact PgS.nil E1 S.pg.1) (by rw [a1']; simp [fitsAll]) (by rw [a2']; exact hb)
 have ho := hone 0 []
 rw [a2'] at hfin
 exact st_give (rb := w.heap.size) (vb := w.heap.size + 1) (I rfl) (I rfl) Tryz.results188 (by kernel_rfl) (by rw [putAt_size, hsz]; kernel_rfl) (by rw [putAt_size, hsz]; rfl) ho rfl (by simp) (by simp) F kx R hfin
end Go.Proofs.YtackcbpabjhmpaaGreat
