import Derived.Test.YtackcbpabjhmpaaGreatM47
import Derived.Test.YtackcbpabjhmpaaGreatJGet5
namespace Go.Proofs.YtackcbpabjhmpaaGreat
open Go.RowKit
set_option linter.unusedVariables false
set_option linter.unusedSimpArgs false
theorem Kp.same {base b k i : Nat} {w : World} {cs : Array Value} {t : TypeId} {v : Value} (h : Blk w k cs t) (hv : cs[i]? = some v) : Kp base b w (w.setCell ⟨k, i, none⟩ v) := by
 have hk : (w.setCell ⟨k, i, none⟩ v).heap[k]? = w.heap[k]? := by
  have h1 := h.set i v
  have e : cs.setIfInBounds i v = cs := by
   apply Array.ext_getElem?
   intro j
   rw [Array.getElem?_setIfInBounds]
   split
   ·rename_i e; subst e
    rw [hv]
    have := (Array.getElem?_eq_some_iff.1 hv).1
    simp [this]
   ·rfl
  rw [e] at h1
  unfold Blk at *
  rw [h, h1]
 have hall : ∀ j, (w.setCell ⟨k, i, none⟩ v).heap[j]? = w.heap[j]? := fun j => by
  by_cases e : j = k
  ·subst e; exact hk
  ·exact Below.heap_setCell _ _ _ _ e
 exact ⟨⟨rfl, rfl, rfl, by rw [show (w.setCell ⟨k, i, none⟩ v).heap.size = w.heap.size by simp [World.setCell]]; exact Nat.le_refl _, fun j _ => hall j⟩, fun j _ => hall j⟩
theorem res_enc (x : Rsl) : encL (atomsAll resSc (pvAll x.flds)) = encL (nums [x.co, x.us, x.va]) ++ encF [.list 64 pairSc] [x.no.fld pairF] := by
 unfold encF
 rw [← encL_append]
 congr 1
theorem presult_w : WalkW 209 resultK := by
 refine ⟨by kernel_rfl, fun base b xb t fs w hf hP ht hne kx hg => ?_⟩
 obtain ⟨x, rfl⟩ := Rsl.of fs hf
 obtain ⟨⟨o1, o2⟩, ⟨u1, u2⟩, ⟨v1, v2⟩, hfl⟩ := Rsl.bnd hf
 have f3 : fitsAll [.list 64 pairSc] [x.no.fld pairF] := by rw [fitsAll, fitsAll]; exact ⟨hfl, trivial⟩
 have he : resultK.enc (pvAll x.flds) = encL (nums [x.co, x.us, x.va]) ++ encF [.list 64 pairSc] [x.no.fld pairF] := res_enc x
 rw [he]
 have hs := kx.safe ht hne
 have hc := CellsAt.of_blk kx (by simp) hg
 have hk0 : w.cell? ⟨xb, 0, none⟩ = some (.int .i64 x.co) := hc.1
 have hlx := kx.lt
 obtain ⟨_, _, hlt, hbb⟩ := hP.cells
 have l3 := enc_le 1000000000 f3 (Nat.le_of_ble_eq_true (by kernel_rfl))
 have l0 : (encL (nums [x.co, x.us, x.va])).length ≤ 100 := by
  have := encL_len (nums [x.co, x.us, x.va])
  simp only [nums, List.map, wtL, Atom.wt] at this
  unfold nums
  simp only [List.map]
  omega
 obtain ⟨d3, hu3, hr3⟩ := cellT_out (show cellT Tryz.prog 3 = true by kernel_rfl)
 obtain ⟨d22, hu22, hr22⟩ := cellT_out (show cellT Tryz.prog 22 = true by kernel_rfl)
 refine ab_fn (S := fun _ (_ : List Unit) _ => True) (segs := []) (off := 0) (N := 27) Tryz.func209 rfl rfl (by decide) trivial fun A F => ?_
 refine wp_seq (wp_region_list ?_)
 show wpList _ _ _ [_, _, _, _, _, _] _ _
 refine ol_move rfl (.inl rfl) ?_
 show wpList _ _ _ _ (A.put (some 5) (A.eval (.tmp 1))) _
 rw [F.get (by simp : (1, Value.pointer (some ⟨xb, 0, none⟩)) ∈ _)]
 have F1 := F.set (i := 5) (v := .pointer (some ⟨xb, 0, none⟩)) (by omega) rfl
 generalize A.put (some 5) (.pointer (some ⟨xb, 0, none⟩)) = A1 at *
 refine ol_nil rfl rfl (F1.get (by simp : (5, Value.pointer (some ⟨xb, 0, none⟩)) ∈ _)) ?_
 show wpList _ _ _ _ (A1.put (some 6) (.pointer (some ⟨xb, 0, none⟩))) _
 have F2 := F1.set (i := 6) (v := .pointer (some ⟨xb, 0, none⟩)) (by omega) rfl
 generalize A1.put (some 6) (.pointer (some ⟨xb, 0, none⟩)) = A2 at *
 refine ol_fld rfl rfl (F2.get (by simp : (6, Value.pointer (some ⟨xb, 0, none⟩)) ∈ _)) (n := 0) (by kernel_rfl) ?_
 show wpList _ _ _ _ (A2.put (some 7) (.pointer (some ⟨xb, 0, none⟩))) _
 have F3 := F2.set (i := 7) (v := .pointer (some ⟨xb, 0, none⟩)) (by omega) rfl
 generalize A2.put (some 7) (.pointer (some ⟨xb, 0, none⟩)) = A3 at *
 refine ol_cell rfl rfl (F3.get (by simp : (7, Value.pointer (some ⟨xb, 0, none⟩)) ∈ _)) hk0 hu22 hr22 ?_
 show wpList _ _ _ _ (A3.put (some 8) (.int .i64 x.co)) _
 have F4 := F3.set (i := 8) (v := .int .i64 x.co) (by omega) rfl
 generalize A3.put (some 8) (.int .i64 x.co) = A4 at *
 refine ol_alloc rfl rfl (z := .int .i64 0) (n := 1) (by kernel_rfl) ?_
 show wpList _ _ _ _ (A4.put (some 4) (ptr w.heap.size)) (w.alloc (.cells #[.int .i64 0] 3))
 have F5 := F4.set (i := 4) (v := ptr w.heap.size) (by omega) rfl
 generalize A4.put (some 4) (ptr w.heap.size) = A5 at *
 have kn := Blk.new w #[.int .i64 0] 3
 have bA : Below w.heap.size w (w.alloc (.cells #[.int .i64 0] 3)) := (Below.refl _ _).alloc (Nat.le_refl _) _
 generalize w.alloc (.cells #[.int .i64 0] 3) = wa at *
 refine ol_store rfl rfl rfl (F5.get (by simp : (4, ptr w.heap.size) ∈ _)) (F5.get (by simp : (8, Value.int .i64 x.co) ∈ _)) (kn.thereAt 0 _ (by show 0 + 1 ≤ 1; omega)) (by kernel_rfl) (fun u hu => by simp [Value.cells] at hu; subst hu; rfl) ?_
 have kn1 : Blk (wa.setCell ⟨w.heap.size, 0, none⟩ (.int .i64 x.co)) w.heap.size #[.int .i64 x.co] 3 := kn.set 0 _
 have b1' : Below w.heap.size w (wa.setCell ⟨w.heap.size, 0, none⟩ (.int .i64 x.co)) := bA.setCell (Nat.le_refl _) _
 show wpList _ _ _ _ _ (wa.setCell ⟨w.heap.size, 0, none⟩ (.int .i64 x.co))
 generalize wa.setCell ⟨w.heap.size, 0, none⟩ (.int .i64 x.co) = w1 at *
 refine wpList_nil ?_
 show Code.wp _ _ _ _ _
 have F6 : Fr 27 [(4, ptr w.heap.size), (0, ptr b), (1, .pointer (some ⟨xb, 0, none⟩))] A5 := F5.sub (by intro p hp; simp at hp ⊢; rcases hp with h | h | h <;> simp [h])
 clear F F1 F2 F3 F4 F5
 have K1 : Kp base b w w1 := Kp.of_below b1' (by omega)
 refine wp_seq (st_three (b := b) (xb := xb) (off := 0) (s := 179) (k0 := 1) (o1 := 1) (cb := w.heap.size) (t4 := 4) (f := 124) (ety := 187) (R := fun w2 e w' => e = .returned (.tuple #[]) ∧ PassAt w' base b (encL (nums [x.co, x.us, x.va])) ∧ Kp base b w2 w') rfl (by kernel_rfl) (by kernel_rfl) (by kernel_rfl) (by kernel_rfl) (by kernel_rfl) (by kernel_rfl) rfl (fun _ _ _ _ _ h => h) (by simp) (by simp) (by simp) F6 ?_ ?_)
 ·intro w2 b2 kb
  have K2 : Kp base b w1 w2 := Kp.of_below b2 (by have := b1'.size; omega)
  have kn2 := kn1.kp K2 (by omega)
  have hz := kn1.lt
  have sl : Safe w2 b w1.heap.size := kb.safe (by decide) (by omega)
  have hc2 := hc.kp hs (K1.trans K2)
  refine (numbersW base b w1.heap.size 3 [⟨w.heap.size, 0, none⟩, ⟨xb, 1, none⟩, ⟨xb, 2, none⟩] [x.co, x.us, x.va] [] w2 (by show 3 ≤ 16; omega) (by simp) ((hP.below b1').below b2) ⟨rfl, sl, fun i a m ha hm => ?_⟩).mono fun e w3 ⟨q1, q2⟩ => ?_
  ·match i, ha, hm with
   | 0, ha, hm =>
    simp at ha hm
    subst ha hm
    exact ⟨(kb.cell 0).trans rfl, (kn2.cell 0).trans rfl, kn2.safe (by decide) (by omega)⟩
   | 1, ha, hm =>
    simp at ha hm
    subst ha hm
    exact ⟨(kb.cell 1).trans rfl, hc2.get 1 rfl, hs.kp (K1.trans K2)⟩
   | 2, ha, hm =>
    simp at ha hm
    subst ha hm
    exact ⟨(kb.cell 2).trans rfl, hc2.get 2 rfl, hs.kp (K1.trans K2)⟩
   | n + 3, ha, hm => simp at ha
  ·have q := wr_ok q1 (by simp [nums, okL, Atom.ok, o1, o2, u1, u2, v1, v2])
   exact ⟨q.1, by simpa using q.2, q2⟩
 rintro w2 e w3 b2 ⟨rfl, P3, K3⟩
 refine ⟨rfl, fun A F => ?_⟩
 have hz := kn1.lt
 have K13 : Kp base b w1 w3 := (Kp.of_below b2 (by have := b1'.size; omega)).trans K3
 have kn3 := kn1.kp K13 (by omega)
 have kx3 := kx.kp (K1.trans K13) hne ht
 have hn3 : w3.cell? ⟨w.heap.size, 0, none⟩ = some (.int .i64 x.co) := (kn3.cell 0).trans rfl
 show Code.wp _ _ _ _ _
 refine wp_seq (wp_region_list ?_)
 show wpList _ _ _ [_, _, _, _, _] _ _
 refine ol_move rfl (.inl rfl) ?_
 show wpList _ _ _ _ (A.put (some 18) (A.eval (.tmp 1))) _
 rw [F.get (by simp : (1, Value.pointer (some ⟨xb, 0, none⟩)) ∈ _)]
 have F1 := F.set (i := 18) (v := .pointer (some ⟨xb, 0, none⟩)) (by omega) rfl
 generalize A.put (some 18) (.pointer (some ⟨xb, 0, none⟩)) = A1 at *
 refine ol_cell rfl rfl (F1.get (by simp : (4, ptr w.heap.size) ∈ _)) hn3 hu3 hr3 ?_
 show wpList _ _ _ _ (A1.put (some 19) (.int .i64 x.co)) _
 have F2 := F1.set (i := 19) (v := .int .i64 x.co) (by omega) rfl
 generalize A1.put (some 19) (.int .i64 x.co) = A2 at *
 refine ol_nil rfl rfl (F2.get (by simp : (18, Value.pointer (some ⟨xb, 0, none⟩)) ∈ _)) ?_
 show wpList _ _ _ _ (A2.put (some 20) (.pointer (some ⟨xb, 0, none⟩))) _
 have F3 := F2.set (i := 20) (v := .pointer (some ⟨xb, 0, none⟩)) (by omega) rfl
 generalize A2.put (some 20) (.pointer (some ⟨xb, 0, none⟩)) = A3 at *
 refine ol_fld rfl rfl (F3.get (by simp : (20, Value.pointer (some ⟨xb, 0, none⟩)) ∈ _)) (n := 0) (by kernel_rfl) ?_
 show wpList _ _ _ _ (A3.put (some 21) (.pointer (some ⟨xb, 0, none⟩))) _
 have F4 := F3.set (i := 21) (v := .pointer (some ⟨xb, 0, none⟩)) (by omega) rfl
 generalize A3.put (some 21) (.pointer (some ⟨xb, 0, none⟩)) = A4 at *
 refine ol_store rfl rfl rfl (F4.get (by simp : (21, Value.pointer (some ⟨xb, 0, none⟩)) ∈ _)) (F4.get (by simp : (19, Value.int .i64 x.co) ∈ _)) (kx3.thereAt 0 _ (by show 0 + 1 ≤ 4; omega)) (by kernel_rfl) (fun u hu => by simp [Value.cells] at hu; subst hu; rfl) ?_
 have P4 : PassAt (w3.setCell ⟨xb, 0, none⟩ (.int .i64 x.co)) base b (encL (nums [x.co, x.us, x.va])) := P3.setOther kx3 ht (fun q => hne q.symm) 0 _
 have K4 : Kp base b w3 (w3.setCell ⟨xb, 0, none⟩ (.int .i64 x.co)) := Kp.same kx3 rfl
 show wpList _ _ _ _ _ (w3.setCell ⟨xb, 0, none⟩ (.int .i64 x.co))
 generalize w3.setCell ⟨xb, 0, none⟩ (.int .i64 x.co) = w4 at *
 refine wpList_nil ?_
 show Code.wp _ _ _ _ _
 have F5 : Fr 27 [(0, ptr b), (1, .pointer (some ⟨xb, 0, none⟩))] A4 := F4.dropn 5
 have K04 := (K1.trans K13).trans K4
 have c3 : CellsAt base w4 xb 3 [x.no.fld pairF] := (CellsAt.app (fs := [.i x.co, .i x.us, .i x.va]) (gs := [x.no.fld pairF]) (hc.kp hs K04)).2
 exact ab_sub (ex := [.const (.int .i64 64), .func 263]) ((lNote_w (m := 64) (by decide)).ct (tgt := encL (nums [x.co, x.us, x.va]) ++ encF [.list 64 pairSc] [x.no.fld pairF])) rfl (fun _ => rfl) (by kernel_rfl) rfl (fun _ _ _ _ h => by cases h.1) (by simp) (by simp) F5 (ws_one f3 (by omega) P4 (hs.kp K04) c3) fun A' w' F' H' => ret_plain rfl F'.2.1 ⟨rfl, (ws_done H').1, K04.trans (ws_done H').2⟩
theorem face_q {f g wf mf id0 id1 : Nat} {fn : Func} {K : Kd} {ts : Array TypeId} {a2 a3 b1 b2 b3 b4 b5 b6 : Oper} (hG : ∀ lo fs w, fitsAll K.sc fs → lieAll lo w fs → Calls Tryz.prog g #[K.wrap (fs.map Fld.val).toArray, .func (.func wf) #[] #[], .func (.func mf) #[] #[]] w (PutQ K fs w)) (gE : enters Tryz.prog g = true) (hE : enters Tryz.prog f = true) (hf : Tryz.prog.funcs[f]? = some fn) (hN : fn.ntmps = 8) (hres : fn.results = #[.tmp 2, .tmp 3])
  (hb : fn.body = some (Code.seq (.region id0 #[a2, a3] false) (.seq (.region id1 #[b1, b2, b3, b4, b5, b6] false) .ret))) (h2 : Is a2 (some 2) (.assign (.const (str [])))) (h3 : Is a3 (some 3) (.assign (.const (.int .i64 0)))) (h4 : Is b1 (some 4) (.move (.tmp 0))) (h5 : Is b2 (some 5) (.call { callee := .value (.func g), args := #[.tmp 4, .func wf, .func mf], argTypes := ts })) (h6 : Is b3 (some 6) (.extract (.tmp 5) 0)) (h7 : Is b4 (some 7) (.extract (.tmp 5) 1)) (h8 : Is b5 (some 2) (.assign (.tmp 6))) (h9 : Is b6 (some 3) (.assign (.tmp 7))) : PutC f K := by
 refine ⟨hE, fun lo fs w hfit hl => ?_⟩
 have hlen := fits_len hfit
 have hG2 := fun w' (h : Below w.heap.size w w') => hG lo fs w' hfit (hl.hi (Hi.of_below h))
 generalize K.wrap (fs.map Fld.val).toArray = V at hG2 ⊢
 refine calls_of_wp hf hb ?_
 have F := fr_one (v := V) hN (by omega)
 generalize ({ tmps := #[V] ++ Array.replicate (fn.ntmps - (#[V] : Array Value).size) undef, defers := [] } : Act) = A at F ⊢
 refine wp_seq (wp_region_list ?_)
 show wpList _ _ _ [a2, a3] _ _
 have F1 := F
 have bw := Below.refl w.heap.size w
 refine ol_move h2.2.2 (.inr h2.2.1) ?_
 rw [h2.1]
 have F2 := F1.put (v := str []) (is := [2]) (i := 2) rfl (by simp)
 show wpList _ _ _ _ (A.put (some 2) (str [])) _
 generalize A.put (some 2) (str []) = A2 at *
 refine ol_move h3.2.2 (.inr h3.2.1) ?_
 rw [h3.1]
 have F3 := F2.put (v := .int .i64 0) (is := [3]) (i := 3) rfl (by simp)
 show wpList _ _ _ _ (A2.put (some 3) (.int .i64 0)) _
 generalize A2.put (some 3) (.int .i64 0) = A3 at *
 refine wpList_nil ?_
 show Code.wp _ _ _ _ _
 refine wp_seq (wp_region_list ?_)
 show wpList _ _ _ [b1, b2, b3, b4, b5, b6] _ _
 refine ol_move h4.2.2 (.inl h4.2.1) ?_
 rw [h4.1, F3.get (by simp : (0, V) ∈ _)]
 have F4 := F3.set (i := 4) (v := V) (by omega) rfl
 generalize A3.put (some 4) V = A4 at *
 refine ol_call h5.2.2 gE h5.2.1 (vs := #[V, .func (.func wf) #[] #[], .func (.func mf) #[] #[]]) (by rw [List.map_toArray]; simp only [List.map_cons, List.map_nil]; rw [F4.get (by simp : (4, V) ∈ _)]; rfl) (hG2 w bw) ?_
 rintro e w2 ⟨out, er, rfl, b2', hP⟩
 refine ⟨_, rfl, ?_⟩
 rw [h5.1]
 have F5 := F4.set (i := 5) (v := .tuple #[str out, .int .i64 er]) (by omega) rfl
 generalize A4.put (some 5) (.tuple #[str out, .int .i64 er]) = A5 at *
 refine ol_val (w' := w2) (v := str out) h6.2.2 (by unfold execOp; rw [h6.2.1]; simp only [F5.get (by simp : (5, Value.tuple #[str out, .int .i64 er]) ∈ _)]; rfl) ?_
 rw [h6.1]
 have F6 := F5.set (i := 6) (v := str out) (by omega) rfl
 generalize A5.put (some 6) (str out) = A6 at *
 refine ol_val (w' := w2) (v := .int .i64 er) h7.2.2 (by unfold execOp; rw [h7.2.1]; simp only [F6.get (by simp : (5, Value.tuple #[str out, .int .i64 er]) ∈ _)]; rfl) ?_
 rw [h7.1]
 have F7 := F6.set (i := 7) (v := .int .i64 er) (by omega) rfl
 generalize A6.put (some 7) (.int .i64 er) = A7 at *
 refine ol_move h8.2.2 (.inr h8.2.1) ?_
 rw [h8.1, F7.get (by simp : (6, str out) ∈ _)]
 have F8 := F7.set (i := 2) (v := str out) (by omega) rfl
 generalize A7.put (some 2) (str out) = A8 at *
 refine ol_move h9.2.2 (.inr h9.2.1) ?_
 rw [h9.1, F8.get (by simp : (7, Value.int .i64 er) ∈ _)]
 have F9 := F8.set (i := 3) (v := .int .i64 er) (by omega) rfl
 generalize A8.put (some 3) (.int .i64 er) = A9 at *
 refine wpList_nil ?_
 show Code.wp _ _ _ _ _
 exact wp_ret (bodyPost_ret (results_two hres (F9.get (by simp : (2, str out) ∈ _)) (F9.get (by simp : (3, Value.int .i64 er) ∈ _)) _) F9.2.1 ⟨out, er, rfl, b2', hP⟩)
theorem anyInt_x : MayX 42 numberK := ⟨by kernel_rfl, fun lo fs w hfit hl => by
 obtain ⟨x, rfl⟩ := int_of fs hfit
 exact (anyInt_any (.bool true) x w).mono fun e w' ⟨h1, h2⟩ => ⟨true, h1, ⟨fun _ => ⟨x, rfl, rfl⟩, fun _ => rfl⟩, h2⟩⟩
theorem mayBench_x : MayX 62 benchK := ⟨by kernel_rfl, fun lo fs w hfit hl => by
 have hg := hl.goods
 obtain ⟨x, rfl⟩ := bench_ofK fs hfit
 have hn : x.xs.length ≤ 140737488351232 := by
  have := (lst_fits (flds := pairF) (els := pairSc) (m := 7) (l := x) (get_fits hfit 0 rfl rfl)).1
  omega
 have := mayBench_anyX x w hg hn
 rw [← Lst.val pairF] at this
 exact this.mono fun e w' ⟨h1, h2⟩ => ⟨_, h1, (mayK (sc := [.list 7 pairSc]) bench_mpv x).symm, h2⟩⟩
theorem wputRecord_n : PutC 99 recordK := face_p (put_p (tpp := 76) precord_w mayRecord_x (load_agg (ty := 158) rfl (by kernel_rfl) (by kernel_rfl)) (fun _ _ => rfl) (by decide) Tryz.func189 rfl rfl rfl (by constructor <;> exact ⟨rfl, rfl, rfl⟩) (by kernel_rfl) (by kernel_rfl) (by kernel_rfl) Tryz.func252 rfl rfl rfl (I rfl) (I rfl) (I rfl) (by kernel_rfl) (by kernel_rfl)) (load_agg (ty := 158) rfl (by kernel_rfl) (by kernel_rfl)) (fun _ _ => rfl) (by kernel_rfl) (by kernel_rfl) Tryz.func99 rfl rfl rfl (I rfl) (I rfl) (I rfl) (I rfl) (I rfl) (I rfl) (I rfl) (I rfl) (I rfl)
theorem wputResult_n : PutC 115 resultK := face_p (put_p (tpp := 76) presult_w anyResult_x (load_agg (ty := 179) rfl (by kernel_rfl) (by kernel_rfl)) (fun _ _ => rfl) (by decide) Tryz.func212 rfl rfl rfl (by constructor <;> exact ⟨rfl, rfl, rfl⟩) (by kernel_rfl) (by kernel_rfl) (by kernel_rfl) Tryz.func264 rfl rfl rfl (I rfl) (I rfl) (I rfl) (by kernel_rfl) (by kernel_rfl)) (load_agg (ty := 179) rfl (by kernel_rfl) (by kernel_rfl)) (fun _ _ => rfl) (by kernel_rfl) (by kernel_rfl) Tryz.func115 rfl rfl rfl (I rfl) (I rfl) (I rfl) (I rfl) (I rfl) (I rfl) (I rfl) (I rfl) (I rfl)
theorem wputNumber_n : PutC 7 numberK := face_q (put_p (tpp := 76) (number_w.walkW (K := numberK) (fun _ => rfl) (Nat.le_of_ble_eq_true (by kernel_rfl))) anyInt_x (load_one (ty := 3) rfl (by kernel_rfl) rfl) (fun fs h => one_wrap fs h) (by decide) Tryz.func40 rfl rfl rfl (by constructor <;> exact ⟨rfl, rfl, rfl⟩) (by kernel_rfl) (by kernel_rfl) (by kernel_rfl) Tryz.func118 rfl rfl rfl (I rfl) (I rfl) (I rfl) (by kernel_rfl) (by kernel_rfl)) (by kernel_rfl) (by kernel_rfl) Tryz.func7 rfl rfl rfl (I rfl) (I rfl) (I rfl) (I rfl) (I rfl) (I rfl) (I rfl) (I rfl)
theorem wputBench_n : PutC 21 benchK := face_q (put_p (tpp := 76) (pbench_w.walkW (K := benchK) (fun _ => rfl) (Nat.le_of_ble_eq_true (by kernel_rfl))) mayBench_x (load_one (ty := 46) rfl (by kernel_rfl) rfl) (fun fs h => one_wrap fs h) (by decide) Tryz.func64 rfl rfl rfl (by constructor <;> exact ⟨rfl, rfl, rfl⟩) (by kernel_rfl) (by kernel_rfl) (by kernel_rfl) Tryz.func146 rfl rfl rfl (I rfl) (I rfl) (I rfl) (by kernel_rfl) (by kernel_rfl)) (by kernel_rfl) (by kernel_rfl) Tryz.func21 rfl rfl rfl (I rfl) (I rfl) (I rfl) (I rfl) (I rfl) (I rfl) (I rfl) (I rfl)
set_option maxRecDepth 4000 in
set_option maxHeartbeats 1600000 in
theorem rgetVote_c : GetC 12 voteK := by
 refine ⟨by kernel_rfl, fun s w hs => ?_⟩
 refine calls_of_wp Tryz.func12 rfl ?_
 refine rg_start (sc := voteK.sc) (I rfl) (I rfl) (I rfl) (I rfl) (I rfl) (I rfl) (by decide) (fun _ => rfl) (by kernel_rfl) (fr_one (v := str s) Tryz.ntmps12 (by decide)) ?_
 intro A w1 F g kr b1
 have hg := Blk.lt g
 refine wp_seq (rg_read (K := voteK) (RdC.rdx (K := voteK) rfl gvote_c) rfl (I rfl) (I rfl) (I rfl) (I rfl) (by kernel_rfl) rfl (by simp) F g hs ?_)
 clear F
 intro A fs a E xb w2 F g2 b2 hx kx l2 p2 z2
 exact rg_tail rputVote_c rfl (I rfl) (I rfl) (I rfl) (I rfl) (I rfl) (I rfl) (I rfl) (I rfl) (I rfl) (I rfl) (I rfl) (I rfl) (I rfl) (I rfl) (I rfl) (I rfl) (I rfl) (I rfl) (I rfl) (I rfl) (I rfl) Tryz.results12 (by kernel_rfl) (by kernel_rfl) (by kernel_rfl) (by kernel_rfl) (zArr_size _) rfl rfl rfl (fun _ => rfl) (fun _ => rfl) (fun _ => rfl) (by simp) (by simp) (by simp) F g2 rfl rfl (b1.trans (b2.below b1.size (fun k q => by omega))) (b2.blk kr (by omega)) kx (by omega) (l2.mono (by omega)) p2 z2 hs
set_option maxRecDepth 4000 in
set_option maxHeartbeats 1600000 in
theorem rgetCert_c : GetC 16 certK := by
 refine ⟨by kernel_rfl, fun s w hs => ?_⟩
 refine calls_of_wp Tryz.func16 rfl ?_
 refine rg_start (sc := certK.sc) (I rfl) (I rfl) (I rfl) (I rfl) (I rfl) (I rfl) (by decide) (fun _ => rfl) (by kernel_rfl) (fr_one (v := str s) Tryz.ntmps16 (by decide)) ?_
 intro A w1 F g kr b1
 have hg := Blk.lt g
 refine wp_seq (rg_read (K := certK) (RdC.rdx (K := certK) rfl gcert_c) rfl (I rfl) (I rfl) (I rfl) (I rfl) (by kernel_rfl) rfl (by simp) F g hs ?_)
 clear F
 intro A fs a E xb w2 F g2 b2 hx kx l2 p2 z2
 exact rg_tail rputCert_c rfl (I rfl) (I rfl) (I rfl) (I rfl) (I rfl) (I rfl) (I rfl) (I rfl) (I rfl) (I rfl) (I rfl) (I rfl) (I rfl) (I rfl) (I rfl) (I rfl) (I rfl) (I rfl) (I rfl) (I rfl) (I rfl) Tryz.results16 (by kernel_rfl) (by kernel_rfl) (by kernel_rfl) (by kernel_rfl) (zArr_size _) rfl rfl rfl (fun _ => rfl) (fun _ => rfl) (fun _ => rfl) (by simp) (by simp) (by simp) F g2 rfl rfl (b1.trans (b2.below b1.size (fun k q => by omega))) (b2.blk kr (by omega)) kx (by omega) (l2.mono (by omega)) p2 z2 hs
set_option maxRecDepth 4000 in
set_option maxHeartbeats 1600000 in
theorem rgetProof_c : GetC 28 proofK := by
 refine ⟨by kernel_rfl, fun s w hs => ?_⟩
 refine calls_of_wp Tryz.func28 rfl ?_
 refine rg_start (sc := proofK.sc) (I rfl) (I rfl) (I rfl) (I rfl) (I rfl) (I rfl) (by decide) (fun _ => rfl) (by kernel_rfl) (fr_one (v := str s) Tryz.ntmps28 (by decide)) ?_
 intro A w1 F g kr b1
 have hg := Blk.lt g
 refine wp_seq (rg_read (K := proofK) (RdC.rdx (K := proofK) rfl gproof_c) rfl (I rfl) (I rfl) (I rfl) (I rfl) (by kernel_rfl) rfl (by simp) F g hs ?_)
 clear F
 intro A fs a E xb w2 F g2 b2 hx kx l2 p2 z2
 exact rg_tail rputProof_c rfl (I rfl) (I rfl) (I rfl) (I rfl) (I rfl) (I rfl) (I rfl) (I rfl) (I rfl) (I rfl) (I rfl) (I rfl) (I rfl) (I rfl) (I rfl) (I rfl) (I rfl) (I rfl) (I rfl) (I rfl) (I rfl) Tryz.results28 (by kernel_rfl) (by kernel_rfl) (by kernel_rfl) (by kernel_rfl) (zArr_size _) rfl rfl rfl (fun _ => rfl) (fun _ => rfl) (fun _ => rfl) (by simp) (by simp) (by simp) F g2 rfl rfl (b1.trans (b2.below b1.size (fun k q => by omega))) (b2.blk kr (by omega)) kx (by omega) (l2.mono (by omega)) p2 z2 hs
set_option maxRecDepth 4000 in
set_option maxHeartbeats 1600000 in
theorem rgetTx_c : GetC 32 txK := by
 refine ⟨by kernel_rfl, fun s w hs => ?_⟩
 refine calls_of_wp Tryz.func32 rfl ?_
 refine rg_start (sc := txK.sc) (I rfl) (I rfl) (I rfl) (I rfl) (I rfl) (I rfl) (by decide) (fun _ => rfl) (by kernel_rfl) (fr_one (v := str s) Tryz.ntmps32 (by decide)) ?_
 intro A w1 F g kr b1
 have hg := Blk.lt g
 refine wp_seq (rg_read (K := txK) (RdC.rdx (K := txK) rfl gtx_c) rfl (I rfl) (I rfl) (I rfl) (I rfl) (by kernel_rfl) rfl (by simp) F g hs ?_)
 clear F
 intro A fs a E xb w2 F g2 b2 hx kx l2 p2 z2
 exact rg_tail rputTx_c rfl (I rfl) (I rfl) (I rfl) (I rfl) (I rfl) (I rfl) (I rfl) (I rfl) (I rfl) (I rfl) (I rfl) (I rfl) (I rfl) (I rfl) (I rfl) (I rfl) (I rfl) (I rfl) (I rfl) (I rfl) (I rfl) Tryz.results32 (by kernel_rfl) (by kernel_rfl) (by kernel_rfl) (by kernel_rfl) (zArr_size _) rfl rfl rfl (fun _ => rfl) (fun _ => rfl) (fun _ => rfl) (by simp) (by simp) (by simp) F g2 rfl rfl (b1.trans (b2.below b1.size (fun k q => by omega))) (b2.blk kr (by omega)) kx (by omega) (l2.mono (by omega)) p2 z2 hs
set_option maxRecDepth 4000 in
set_option maxHeartbeats 1600000 in
theorem rgetGuilt_c : GetC 36 guiltK := by
 refine ⟨by kernel_rfl, fun s w hs => ?_⟩
 refine calls_of_wp Tryz.func36 rfl ?_
 refine rg_start (sc := guiltK.sc) (I rfl) (I rfl) (I rfl) (I rfl) (I rfl) (I rfl) (by decide) (fun _ => rfl) (by kernel_rfl) (fr_one (v := str s) Tryz.ntmps36 (by decide)) ?_
 intro A w1 F g kr b1
 have hg := Blk.lt g
 refine wp_seq (rg_read (K := guiltK) (RdC.rdx (K := guiltK) rfl gguilt_c) rfl (I rfl) (I rfl) (I rfl) (I rfl) (by kernel_rfl) rfl (by simp) F g hs ?_)
 clear F
 intro A fs a E xb w2 F g2 b2 hx kx l2 p2 z2
 exact rg_tail rputGuilt_c rfl (I rfl) (I rfl) (I rfl) (I rfl) (I rfl) (I rfl) (I rfl) (I rfl) (I rfl) (I rfl) (I rfl) (I rfl) (I rfl) (I rfl) (I rfl) (I rfl) (I rfl) (I rfl) (I rfl) (I rfl) (I rfl) Tryz.results36 (by kernel_rfl) (by kernel_rfl) (by kernel_rfl) (by kernel_rfl) (zArr_size _) rfl rfl rfl (fun _ => rfl) (fun _ => rfl) (fun _ => rfl) (by simp) (by simp) (by simp) F g2 rfl rfl (b1.trans (b2.below b1.size (fun k q => by omega))) (b2.blk kr (by omega)) kx (by omega) (l2.mono (by omega)) p2 z2 hs
set_option maxRecDepth 4000 in
set_option maxHeartbeats 1600000 in
theorem rgetBlock_c : GetC 90 blockK := by
 refine ⟨by kernel_rfl, fun s w hs => ?_⟩
 refine calls_of_wp Tryz.func90 rfl ?_
 refine rg_start (sc := blockK.sc) (I rfl) (I rfl) (I rfl) (I rfl) (I rfl) (I rfl) (by decide) (fun _ => rfl) (by kernel_rfl) (fr_one (v := str s) Tryz.ntmps90 (by decide)) ?_
 intro A w1 F g kr b1
 have hg := Blk.lt g
 refine wp_seq (rg_read (K := blockK) (RdC.rdx (K := blockK) rfl gblock_c) rfl (I rfl) (I rfl) (I rfl) (I rfl) (by kernel_rfl) rfl (by simp) F g hs ?_)
 clear F
 intro A fs a E xb w2 F g2 b2 hx kx l2 p2 z2
 exact rg_tail rputBlock_c rfl (I rfl) (I rfl) (I rfl) (I rfl) (I rfl) (I rfl) (I rfl) (I rfl) (I rfl) (I rfl) (I rfl) (I rfl) (I rfl) (I rfl) (I rfl) (I rfl) (I rfl) (I rfl) (I rfl) (I rfl) (I rfl) Tryz.results90 (by kernel_rfl) (by kernel_rfl) (by kernel_rfl) (by kernel_rfl) (zArr_size _) rfl rfl rfl (fun _ => rfl) (fun _ => rfl) (fun _ => rfl) (by simp) (by simp) (by simp) F g2 rfl rfl (b1.trans (b2.below b1.size (fun k q => by omega))) (b2.blk kr (by omega)) kx (by omega) (l2.mono (by omega)) p2 z2 hs
set_option maxRecDepth 4000 in
set_option maxHeartbeats 1600000 in
theorem rgetMessage_c : GetC 94 messageK := by
 refine ⟨by kernel_rfl, fun s w hs => ?_⟩
 refine calls_of_wp Tryz.func94 rfl ?_
 refine rg_start (sc := messageK.sc) (I rfl) (I rfl) (I rfl) (I rfl) (I rfl) (I rfl) (by decide) (fun _ => rfl) (by kernel_rfl) (fr_one (v := str s) Tryz.ntmps94 (by decide)) ?_
 intro A w1 F g kr b1
 have hg := Blk.lt g
 refine wp_seq (rg_read (K := messageK) (RdC.rdx (K := messageK) rfl gmessage_c) rfl (I rfl) (I rfl) (I rfl) (I rfl) (by kernel_rfl) rfl (by simp) F g hs ?_)
 clear F
 intro A fs a E xb w2 F g2 b2 hx kx l2 p2 z2
 exact rg_tail rputMessage_c rfl (I rfl) (I rfl) (I rfl) (I rfl) (I rfl) (I rfl) (I rfl) (I rfl) (I rfl) (I rfl) (I rfl) (I rfl) (I rfl) (I rfl) (I rfl) (I rfl) (I rfl) (I rfl) (I rfl) (I rfl) (I rfl) Tryz.results94 (by kernel_rfl) (by kernel_rfl) (by kernel_rfl) (by kernel_rfl) (zArr_size _) rfl rfl rfl (fun _ => rfl) (fun _ => rfl) (fun _ => rfl) (by simp) (by simp) (by simp) F g2 rfl rfl (b1.trans (b2.below b1.size (fun k q => by omega))) (b2.blk kr (by omega)) kx (by omega) (l2.mono (by omega)) p2 z2 hs
set_option maxRecDepth 4000 in
set_option maxHeartbeats 1600000 in
theorem rgetRecord_c : GetC 98 recordK := by
 refine ⟨by kernel_rfl, fun s w hs => ?_⟩
 refine calls_of_wp Tryz.func98 rfl ?_
 refine rg_start (sc := recordK.sc) (I rfl) (I rfl) (I rfl) (I rfl) (I rfl) (I rfl) (by decide) (fun _ => rfl) (by kernel_rfl) (fr_one (v := str s) Tryz.ntmps98 (by decide)) ?_
 intro A w1 F g kr b1
 have hg := Blk.lt g
 refine wp_seq (rg_read (K := recordK) grecord_x rfl (I rfl) (I rfl) (I rfl) (I rfl) (by kernel_rfl) rfl (by simp) F g hs ?_)
 clear F
 intro A fs a E xb w2 F g2 b2 hx kx l2 p2 z2
 exact rg_tail rputRecord_c rfl (I rfl) (I rfl) (I rfl) (I rfl) (I rfl) (I rfl) (I rfl) (I rfl) (I rfl) (I rfl) (I rfl) (I rfl) (I rfl) (I rfl) (I rfl) (I rfl) (I rfl) (I rfl) (I rfl) (I rfl) (I rfl) Tryz.results98 (by kernel_rfl) (by kernel_rfl) (by kernel_rfl) (by kernel_rfl) (zArr_size _) rfl rfl rfl (fun _ => rfl) (fun _ => rfl) (fun _ => rfl) (by simp) (by simp) (by simp) F g2 rfl rfl (b1.trans (b2.below b1.size (fun k q => by omega))) (b2.blk kr (by omega)) kx (by omega) (l2.mono (by omega)) p2 z2 hs
set_option maxRecDepth 4000 in
set_option maxHeartbeats 1600000 in
theorem rgetView_c : GetC 110 viewK := by
 refine ⟨by kernel_rfl, fun s w hs => ?_⟩
 refine calls_of_wp Tryz.func110 rfl ?_
 refine rg_start (sc := viewK.sc) (I rfl) (I rfl) (I rfl) (I rfl) (I rfl) (I rfl) (by decide) (fun _ => rfl) (by kernel_rfl) (fr_one (v := str s) Tryz.ntmps110 (by decide)) ?_
 intro A w1 F g kr b1
 have hg := Blk.lt g
 refine wp_seq (rg_read (K := viewK) (RdC.rdx (K := viewK) rfl gview_c) rfl (I rfl) (I rfl) (I rfl) (I rfl) (by kernel_rfl) rfl (by simp) F g hs ?_)
 clear F
 intro A fs a E xb w2 F g2 b2 hx kx l2 p2 z2
 exact rg_tail rputView_c rfl (I rfl) (I rfl) (I rfl) (I rfl) (I rfl) (I rfl) (I rfl) (I rfl) (I rfl) (I rfl) (I rfl) (I rfl) (I rfl) (I rfl) (I rfl) (I rfl) (I rfl) (I rfl) (I rfl) (I rfl) (I rfl) Tryz.results110 (by kernel_rfl) (by kernel_rfl) (by kernel_rfl) (by kernel_rfl) (zArr_size _) rfl rfl rfl (fun _ => rfl) (fun _ => rfl) (fun _ => rfl) (by simp) (by simp) (by simp) F g2 rfl rfl (b1.trans (b2.below b1.size (fun k q => by omega))) (b2.blk kr (by omega)) kx (by omega) (l2.mono (by omega)) p2 z2 hs
set_option maxRecDepth 4000 in
set_option maxHeartbeats 1600000 in
theorem rgetHeader_c : GetC 24 headerK := by
 refine ⟨by kernel_rfl, fun s w hs => ?_⟩
 refine calls_of_wp Tryz.func24 rfl ?_
 refine rg_start (sc := headerK.sc) (I rfl) (I rfl) (I rfl) (I rfl) (I rfl) (I rfl) (by decide) (fun _ => rfl) (by kernel_rfl) (fr_one (v := str s) Tryz.ntmps24 (by decide)) ?_
 intro A w1 F g kr b1
 have hg := Blk.lt g
 refine wp_seq (rg_read (K := headerK) (RdC.rdx (K := headerK) rfl gheader_c) rfl (I rfl) (I rfl) (I rfl) (I rfl) (by kernel_rfl) rfl (by simp) F g hs ?_)
 clear F
 intro A fs a E xb w2 F g2 b2 hx kx l2 p2 z2
 exact rg_tail0 (any_may Header.of fun _ => rfl) rfl (I rfl) (I rfl) (I rfl) (I rfl) (I rfl) (I rfl) (I rfl) (I rfl) (I rfl) (I rfl) (I rfl) (I rfl) (I rfl) Tryz.results24 (by kernel_rfl) (by kernel_rfl) (by kernel_rfl) (by kernel_rfl) (zArr_size _) rfl (fun _ => rfl) (fun _ => rfl) (fun _ => rfl) (by simp) (by simp) (by simp) F g2 rfl rfl (b1.trans (b2.below b1.size (fun k q => by omega))) (b2.blk kr (by omega)) kx (by omega) (l2.mono (by omega)) p2 z2 hs
set_option maxRecDepth 4000 in
set_option maxHeartbeats 1600000 in
theorem rgetAccount_c : GetC 102 accountK := by
 refine ⟨by kernel_rfl, fun s w hs => ?_⟩
 refine calls_of_wp Tryz.func102 rfl ?_
 refine rg_start (sc := accountK.sc) (I rfl) (I rfl) (I rfl) (I rfl) (I rfl) (I rfl) (by decide) (fun _ => rfl) (by kernel_rfl) (fr_one (v := str s) Tryz.ntmps102 (by decide)) ?_
 intro A w1 F g kr b1
 have hg := Blk.lt g
 refine wp_seq (rg_read (K := accountK) (RdC.rdx (K := accountK) rfl gaccount_c) rfl (I rfl) (I rfl) (I rfl) (I rfl) (by kernel_rfl) rfl (by simp) F g hs ?_)
 clear F
 intro A fs a E xb w2 F g2 b2 hx kx l2 p2 z2
 exact rg_tail0 (any_may Acc.of fun _ => rfl) rfl (I rfl) (I rfl) (I rfl) (I rfl) (I rfl) (I rfl) (I rfl) (I rfl) (I rfl) (I rfl) (I rfl) (I rfl) (I rfl) Tryz.results102 (by kernel_rfl) (by kernel_rfl) (by kernel_rfl) (by kernel_rfl) (zArr_size _) rfl (fun _ => rfl) (fun _ => rfl) (fun _ => rfl) (by simp) (by simp) (by simp) F g2 rfl rfl (b1.trans (b2.below b1.size (fun k q => by omega))) (b2.blk kr (by omega)) kx (by omega) (l2.mono (by omega)) p2 z2 hs
set_option maxRecDepth 4000 in
set_option maxHeartbeats 1600000 in
theorem rgetResult_c : GetC 114 resultK := by
 refine ⟨by kernel_rfl, fun s w hs => ?_⟩
 refine calls_of_wp Tryz.func114 rfl ?_
 refine rg_start (sc := resultK.sc) (I rfl) (I rfl) (I rfl) (I rfl) (I rfl) (I rfl) (by decide) (fun _ => rfl) (by kernel_rfl) (fr_one (v := str s) Tryz.ntmps114 (by decide)) ?_
 intro A w1 F g kr b1
 have hg := Blk.lt g
 refine wp_seq (rg_read (K := resultK) (RdC.rdx (K := resultK) rfl gresult_c) rfl (I rfl) (I rfl) (I rfl) (I rfl) (by kernel_rfl) rfl (by simp) F g hs ?_)
 clear F
 intro A fs a E xb w2 F g2 b2 hx kx l2 p2 z2
 exact rg_tail0 (any_may Rsl.of fun _ => rfl) rfl (I rfl) (I rfl) (I rfl) (I rfl) (I rfl) (I rfl) (I rfl) (I rfl) (I rfl) (I rfl) (I rfl) (I rfl) (I rfl) Tryz.results114 (by kernel_rfl) (by kernel_rfl) (by kernel_rfl) (by kernel_rfl) (zArr_size _) rfl (fun _ => rfl) (fun _ => rfl) (fun _ => rfl) (by simp) (by simp) (by simp) F g2 rfl rfl (b1.trans (b2.below b1.size (fun k q => by omega))) (b2.blk kr (by omega)) kx (by omega) (l2.mono (by omega)) p2 z2 hs
end Go.Proofs.YtackcbpabjhmpaaGreat
