/- A vote is counted: the answer's. -/
import Derived.Test.YtimcddknoanghaaKRef
import Derived.Test.YtimcddknoanghaaKBut
import Derived.Test.YtimcddknoanghaaKVN
import Derived.Deep.RegionHeld3
import Derived.Deep.CutBlock
namespace Go.Proofs.Ytimcddknoanghaa
open Go.RowKit Go.Maps
set_option linter.unusedVariables false
set_option linter.unusedSimpArgs false

theorem But.atq (w : World) (b i : Nat) (v : Value) : But (fun k => k = b) w (w.setCell ⟨b, i, none⟩ v) := But.set (S := fun k => k = b) w (p := ⟨b, i, none⟩) rfl v
theorem But.trans_neww {S T : Nat → Prop} {a b c : World} (h : But S a b) (k : But T b c) (hs : ∀ k, k < a.heap.size → T k → S k) : But S a c :=
  ⟨k.os.trans h.os, k.tape.trans h.tape, k.output.trans h.output, Nat.le_trans h.size k.size, fun i hi hn => (k.block i (Nat.lt_of_lt_of_le hi h.size) (fun q => hn (hs i hi q))).trans (h.block i hi hn)⟩
theorem but12c (w : World) (b : Nat) : But (fun k => k = b) w ((((((((((((w.setCell ⟨b, 0, none⟩ (.int .i64 0)).setCell ⟨b, 1, none⟩ (.int .i64 0)).setCell ⟨b, 2, none⟩ (.int .i64 0)).setCell ⟨b, 3, none⟩ (.bool false)).setCell ⟨b, 4, none⟩ (.int .u64 0)).setCell ⟨b, 5, none⟩ (.int .i64 0)).setCell ⟨b, 6, none⟩ (.int .i64 0)).setCell ⟨b, 7, none⟩ (.int .i64 0)).setCell ⟨b, 8, none⟩ (.int .i64 0)).setCell ⟨b, 9, none⟩ (.bool false)).setCell ⟨b, 10, none⟩ (.int .u64 0)).setCell ⟨b, 11, none⟩ (.int .i64 0)) := by
  iterate 12 refine But.trans ?_ (But.atq _ _ _ _)
  exact But.refl _ _
/-- They stand at one place. -/
def samePl (a b : Vt) : Prop := a.r = b.r ∧ a.s = b.s ∧ a.f = b.f
/-- What the answer's Add gives, and leaves. -/
def RAddX (rb : Nat) (sa : Option Addr) (sc : Nat) (x : List (Int × Int)) (ht : Int) (L : List Vt) (v : Vt) (P : Int) (w : World) (e : Ending) (w' : World) : Prop :=
  (P ≠ 0 ∧ e = .returned (.tuple #[.agg #[.int .i64 0, .int .i64 0, .int .i64 0, .bool false, .int .u64 0, .int .i64 0, .int .i64 0, .int .i64 0, .int .i64 0, .bool false, .int .u64 0, .int .i64 0], .int .i64 P]) ∧ Below w.heap.size w w') ∨
  (P = 0 ∧ ∃ k, k ≤ L.length ∧ (∀ y ∈ L.take k, aheadV y v = true) ∧ (∀ y, L[k]? = some y → aheadV y v = false) ∧
    ((∃ y, L[k]? = some y ∧ samePl y v ∧ y = v ∧ e = .returned (.tuple #[.agg #[.int .i64 0, .int .i64 0, .int .i64 0, .bool false, .int .u64 0, .int .i64 0, .int .i64 0, .int .i64 0, .int .i64 0, .bool false, .int .u64 0, .int .i64 0], .int .i64 31]) ∧ Below w.heap.size w w') ∨
     (∃ y, L[k]? = some y ∧ samePl y v ∧ y ≠ v ∧ e = .returned (.tuple #[.agg #[.int .i64 y.h, .int .i64 y.r, .int .i64 y.s, .bool y.has, .int .u64 y.bl, .int .i64 y.f, .int .i64 v.h, .int .i64 v.r, .int .i64 v.s, .bool v.has, .int .u64 v.bl, .int .i64 v.f], .int .i64 23]) ∧ Below w.heap.size w w') ∨
     ((∀ y, L[k]? = some y → ¬ samePl y v) ∧ e = .returned (.tuple #[.agg #[.int .i64 0, .int .i64 0, .int .i64 0, .bool false, .int .u64 0, .int .i64 0, .int .i64 0, .int .i64 0, .int .i64 0, .bool false, .int .u64 0, .int .i64 0], .int .i64 0]) ∧ ∃ la' lc', RcAt w' rb sa sc x ht la' lc' (L.take k ++ v :: L.drop k) ∧ w'.ownsRow w.heap.size 34 6 (.slice la' (L.take k ++ v :: L.drop k).length lc') (L.take k ++ v :: L.drop k).length (flatV (L.take k ++ v :: L.drop k)) ∧ But (fun j => j = rb) w w')))

/-- As it was, but for one block. -/
def OffQ (b : Nat) (w w' : World) : Prop := ∀ p : Addr, p.block ≠ b → w'.cell? p = w.cell? p
theorem off_one {b : Nat} {w w' : World} (h : OffQ b w w') (i : Nat) (v : Value) : OffQ b w (w'.setCell ⟨b, i, none⟩ v) := fun q hq => by
  rw [World.cell?_setCell_far _ _ _ _ (by first | exact hq | exact fun e => hq e.symm)]; exact h q hq
theorem OffQ.drew {b : Nat} {w w' : World} (h : OffQ b w w') : OffQ b w w'.drew := h
theorem blk12 {w : World} {b : Nat} {a0 a1 a2 a3 a4 a5 a6 a7 a8 a9 a10 a11 : Value} {t : TypeId} (k : Blk w b #[a0, a1, a2, a3, a4, a5, a6, a7, a8, a9, a10, a11] t) (v0 v1 v2 v3 v4 v5 v6 v7 v8 v9 v10 v11 : Value) : Blk ((((((((((((w.setCell ⟨b, 0, none⟩ v0).setCell ⟨b, 1, none⟩ v1).setCell ⟨b, 2, none⟩ v2).setCell ⟨b, 3, none⟩ v3).setCell ⟨b, 4, none⟩ v4).setCell ⟨b, 5, none⟩ v5).setCell ⟨b, 6, none⟩ v6).setCell ⟨b, 7, none⟩ v7).setCell ⟨b, 8, none⟩ v8).setCell ⟨b, 9, none⟩ v9).setCell ⟨b, 10, none⟩ v10).setCell ⟨b, 11, none⟩ v11).drew b #[v0, v1, v2, v3, v4, v5, v6, v7, v8, v9, v10, v11] t := by
  have h := ((((((((((((k.set 0 v0).set 1 v1).set 2 v2).set 3 v3).set 4 v4).set 5 v5).set 6 v6).set 7 v7).set 8 v8).set 9 v9).set 10 v10).set 11 v11)
  simp only [List.setIfInBounds_toArray, List.set_cons_zero, List.set_cons_succ] at h
  exact h.drew
theorem bel12 {w0 w : World} {B b : Nat} (h : Below B w0 w) (hb : B ≤ b) (v0 v1 v2 v3 v4 v5 v6 v7 v8 v9 v10 v11 : Value) : Below B w0 ((((((((((((w.setCell ⟨b, 0, none⟩ v0).setCell ⟨b, 1, none⟩ v1).setCell ⟨b, 2, none⟩ v2).setCell ⟨b, 3, none⟩ v3).setCell ⟨b, 4, none⟩ v4).setCell ⟨b, 5, none⟩ v5).setCell ⟨b, 6, none⟩ v6).setCell ⟨b, 7, none⟩ v7).setCell ⟨b, 8, none⟩ v8).setCell ⟨b, 9, none⟩ v9).setCell ⟨b, 10, none⟩ v10).setCell ⟨b, 11, none⟩ v11).drew := by
  refine Below.drew ?_
  iterate 12 refine Below.setCell ?_ hb _
  exact h
theorem off12 (w : World) (b : Nat) (v0 v1 v2 v3 v4 v5 v6 v7 v8 v9 v10 v11 : Value) : OffQ b w ((((((((((((w.setCell ⟨b, 0, none⟩ v0).setCell ⟨b, 1, none⟩ v1).setCell ⟨b, 2, none⟩ v2).setCell ⟨b, 3, none⟩ v3).setCell ⟨b, 4, none⟩ v4).setCell ⟨b, 5, none⟩ v5).setCell ⟨b, 6, none⟩ v6).setCell ⟨b, 7, none⟩ v7).setCell ⟨b, 8, none⟩ v8).setCell ⟨b, 9, none⟩ v9).setCell ⟨b, 10, none⟩ v10).setCell ⟨b, 11, none⟩ v11).drew := by
  refine OffQ.drew ?_
  iterate 12 refine off_one ?_ _ _
  exact fun _ _ => rfl

set_option maxRecDepth 8000 in
set_option maxHeartbeats 6400000 in
theorem radd_any (bs rb : Nat) (sa : Option Addr) (sc : Nat) (x : List (Int × Int)) (ht : Int) (la : Option Addr) (lc : Nat) (L : List Vt) (h r s : Int) (has : Bool) (bl f : Int) (S : ByteArray) (E : Int) (w : World)
    (H : RcAt w rb sa sc x ht la lc L) (HO : w.ownsRow bs 34 6 (.slice la L.length lc) L.length (flatV L)) (hx : x.length ≤ 64) (hL : L.length ≤ 600) (hsa : ∀ a, sa = some a → a.block ≠ rb ∧ a.block < w.heap.size)
    (K : ∀ y : World, Below w.heap.size w y → Calls Try.prog 27 #[.agg #[.int .i64 h, .int .i64 r, .int .i64 s, .bool has, .int .u64 bl, .int .i64 f]] y fun e w' => e = .returned (.tuple #[.string S, .int .i64 E]) ∧ Below y.heap.size y w') :
    Calls Try.prog 7 #[.pointer (some ⟨rb, 0, none⟩), .agg #[.int .i64 h, .int .i64 r, .int .i64 s, .bool has, .int .u64 bl, .int .i64 f]] w fun e w' => RAddX rb sa sc x ht L ⟨h, r, s, has, bl, f⟩ (refP E ht x h f) w e w' := by
  have bA : Below w.heap.size w ((w.alloc (.cells #[.int .i64 h, .int .i64 r, .int .i64 s, .bool has, .int .u64 bl, .int .i64 f] 34)).alloc (.cells #[.int .i64 0, .int .i64 0, .int .i64 0, .bool false, .int .u64 0, .int .i64 0, .int .i64 0, .int .i64 0, .int .i64 0, .bool false, .int .u64 0, .int .i64 0] 36)) := ((Below.refl _ _).alloc (Nat.le_refl _) _).alloc (by simp) _
  have kV0 := (Blk.new w #[.int .i64 h, .int .i64 r, .int .i64 s, .bool has, .int .u64 bl, .int .i64 f] 34).alloc (.cells #[.int .i64 0, .int .i64 0, .int .i64 0, .bool false, .int .u64 0, .int .i64 0, .int .i64 0, .int .i64 0, .int .i64 0, .bool false, .int .u64 0, .int .i64 0] 36)
  have kG0 := Blk.new (w.alloc (.cells #[.int .i64 h, .int .i64 r, .int .i64 s, .bool has, .int .u64 bl, .int .i64 f] 34)) #[.int .i64 0, .int .i64 0, .int .i64 0, .bool false, .int .u64 0, .int .i64 0, .int .i64 0, .int .i64 0, .int .i64 0, .bool false, .int .u64 0, .int .i64 0] 36
  rw [World.size_alloc] at kG0
  have KA := K _ bA
  clear K
  obtain ⟨P, HP⟩ : ∃ P, Hid (refP E ht x h f = P) := ⟨_, rfl⟩
  rw [HP.out]
  go_enter Try.func7, Try.ntmps7
  go_wp2_with fail
  refine KA.mono ?_
  rintro e w1 ⟨rfl, b1⟩
  have B1 := bA.trans (b1.mono bA.size)
  have kV1 := kV0.below b1 kV0.lt
  have kG1 := kG0.below b1 kG0.lt
  clear KA kV0 kG0 b1 bA
  by_cases hE : E = 0
  rotate_left
  · have HF : P = E := by rw [← HP.out]; unfold refP; rw [if_pos hE]
    subst HF
    have hEd : (P != 0) = true := by simpa using hE
    have HPN := show Hid _ from hE
    clear HP hE
    have y0 := (kG1.cell 0).trans rfl
    have y1 := (kG1.cell 1).trans rfl
    have y2 := (kG1.cell 2).trans rfl
    have y3 := (kG1.cell 3).trans rfl
    have y4 := (kG1.cell 4).trans rfl
    have y5 := (kG1.cell 5).trans rfl
    have y6 := (kG1.cell 6).trans rfl
    have y7 := (kG1.cell 7).trans rfl
    have y8 := (kG1.cell 8).trans rfl
    have y9 := (kG1.cell 9).trans rfl
    have y10 := (kG1.cell 10).trans rfl
    have y11 := (kG1.cell 11).trans rfl
    have q0 := kG1.frozen 0
    have q1 := kG1.frozen 1
    have q2 := kG1.frozen 2
    have q3 := kG1.frozen 3
    have q4 := kG1.frozen 4
    have q5 := kG1.frozen 5
    have q6 := kG1.frozen 6
    have q7 := kG1.frozen 7
    have q8 := kG1.frozen 8
    have q9 := kG1.frozen 9
    have q10 := kG1.frozen 10
    have q11 := kG1.frozen 11
    have zg9 := kG1.lt
    go_wp2
    refine bodyPost_ret (v := .tuple #[.agg #[.int .i64 0, .int .i64 0, .int .i64 0, .bool false, .int .u64 0, .int .i64 0, .int .i64 0, .int .i64 0, .int .i64 0, .bool false, .int .u64 0, .int .i64 0], .int .i64 P]) (by simp [results, Try.results7, go_sem, y0, y1, y2, y3, y4, y5, y6, y7, y8, y9, y10, y11]) rfl ?_
    refine .inl ⟨HPN.out, rfl, ?_⟩
    iterate 12 refine Below.setCell ?_ (by show w.heap.size ≤ w.heap.size + 1; omega) _
    exact B1
  subst hE
  have HF : Hid (P = if h ≠ ht then 19 else if hasP x f = true then 0 else 17) := by show _ = _; rw [← HP.out]; unfold refP; rw [if_neg (by simp)]
  clear HP
  have v0 := (kV1.cell 0).trans rfl
  have zV := kV1.lt
  have H1 := H.below B1
  have d1 := (H1.k.cell 1).trans rfl
  have zd := H1.k.lt
  by_cases hh : h = ht
  rotate_left
  · have HE : P = 19 := by rw [HF.out, if_pos hh]
    subst HE
    have hd : (h != ht) = true := by simpa using hh
    clear HF hh
    go_upto_region 4 with fail
    go_quiet (fail)
    have kG2 : Blk (w1.drewN nq) (w.heap.size + 1) #[.int .i64 0, .int .i64 0, .int .i64 0, .bool false, .int .u64 0, .int .i64 0, .int .i64 0, .int .i64 0, .int .i64 0, .bool false, .int .u64 0, .int .i64 0] 36 := kG1.below (below_drewN (Below.refl w1.heap.size w1) nq) kG1.lt
    have B2 := below_drewN B1 nq
    generalize w1.drewN nq = w2 at *
    clear kG1 B1
    have y0 := (kG2.cell 0).trans rfl
    have y1 := (kG2.cell 1).trans rfl
    have y2 := (kG2.cell 2).trans rfl
    have y3 := (kG2.cell 3).trans rfl
    have y4 := (kG2.cell 4).trans rfl
    have y5 := (kG2.cell 5).trans rfl
    have y6 := (kG2.cell 6).trans rfl
    have y7 := (kG2.cell 7).trans rfl
    have y8 := (kG2.cell 8).trans rfl
    have y9 := (kG2.cell 9).trans rfl
    have y10 := (kG2.cell 10).trans rfl
    have y11 := (kG2.cell 11).trans rfl
    have q0 := kG2.frozen 0
    have q1 := kG2.frozen 1
    have q2 := kG2.frozen 2
    have q3 := kG2.frozen 3
    have q4 := kG2.frozen 4
    have q5 := kG2.frozen 5
    have q6 := kG2.frozen 6
    have q7 := kG2.frozen 7
    have q8 := kG2.frozen 8
    have q9 := kG2.frozen 9
    have q10 := kG2.frozen 10
    have q11 := kG2.frozen 11
    have zg9 := kG2.lt
    go_wp2
    refine bodyPost_ret (v := .tuple #[.agg #[.int .i64 0, .int .i64 0, .int .i64 0, .bool false, .int .u64 0, .int .i64 0, .int .i64 0, .int .i64 0, .int .i64 0, .bool false, .int .u64 0, .int .i64 0], .int .i64 19]) (by simp [results, Try.results7, go_sem, y0, y1, y2, y3, y4, y5, y6, y7, y8, y9, y10, y11]) rfl ?_
    refine .inl ⟨by simp, rfl, ?_⟩
    iterate 12 refine Below.setCell ?_ (by show w.heap.size ≤ w.heap.size + 1; omega) _
    exact B2
  subst hh
  have HF2 : Hid (P = if hasP x f = true then 0 else 17) := by show _ = _; rw [HF.out, if_neg (by simp)]
  have hd : (h != h) = false := by simp
  clear HF
  go_upto_region 4 with fail
  go_quiet (fail)
  have B2 := below_drewN B1 nq
  have bq : Below w1.heap.size w1 (w1.drewN nq) := below_drewN (Below.refl _ _) nq
  have kV2 := kV1.below bq kV1.lt
  have kG2 := kG1.below bq kG1.lt
  clear kV1 kG1 v0 d1 zV zd H1 bq
  generalize w1.drewN nq = w2 at *
  clear B1
  have H2 := H.below B2
  have D0 : ∀ w', Below w2.heap.size w2 w' → w'.cell? ⟨rb, 0, none⟩ = some (.slice sa x.length sc) := fun w' hb => ((H2.k.below hb H2.k.lt).cell 0).trans rfl
  have D5 : ∀ w', Below w2.heap.size w2 w' → w'.cell? ⟨w.heap.size, 5, none⟩ = some (.int .i64 f) := fun w' hb => ((kV2.below hb kV2.lt).cell 5).trans rfl
  have KH : ∀ w', Below w2.heap.size w2 w' → Calls Try.prog 28 #[.slice sa x.length sc, .int .i64 f] w' fun e w'' => e = .returned (.bool (hasP x f)) ∧ w' = w'' := fun w' hb => rhas_any sa sc x f w' (by unfold maxLen; omega) (H2.seats.below hb)
  obtain ⟨Z, hZ⟩ : ∃ Z, hasP x f = Z := ⟨_, rfl⟩
  rw [hZ] at KH
  have HF3 : Hid (P = if Z = true then 0 else 17) := by show _ = _; rw [HF2.out, hZ]
  have bw : Below w2.heap.size w2 w2 := Below.refl _ _
  have zv2 := kV2.lt
  have zc2 := H2.k.lt
  clear hZ HF2 hd
  go_upto_region 6 with fail
  go_region_held3 (fun w' => Below w2.heap.size w2 w') (repeat (first | exact bw.drew | assumption | refine Below.drew ?_ | exact bw | exact Nat.le_refl _))
    (first
    | (go_at_call 28
       refine (KH _ (by assumption)).mono ?_
       rintro e w3 ⟨rfl, rfl⟩))
  all_goals
    have kG3 : Blk w2.drew (w.heap.size + 1) #[.int .i64 0, .int .i64 0, .int .i64 0, .bool false, .int .u64 0, .int .i64 0, .int .i64 0, .int .i64 0, .int .i64 0, .bool false, .int .u64 0, .int .i64 0] 36 := kG2.drew
    have kV3 : Blk w2.drew w.heap.size #[.int .i64 h, .int .i64 r, .int .i64 s, .bool has, .int .u64 bl, .int .i64 f] 34 := kV2.drew
    have B3 : Below w.heap.size w w2.drew := B2.drew
    clear D0 D5 KH bw zv2 zc2 kG2 kV2 H2
    generalize w2.drew = w3 at *
    clear B2
    cases Z with
    | false =>
      have HE : P = 17 := by have := HF3.out; simpa using this
      subst HE
      clear HF3
      have y0 := (kG3.cell 0).trans rfl
      have y1 := (kG3.cell 1).trans rfl
      have y2 := (kG3.cell 2).trans rfl
      have y3 := (kG3.cell 3).trans rfl
      have y4 := (kG3.cell 4).trans rfl
      have y5 := (kG3.cell 5).trans rfl
      have y6 := (kG3.cell 6).trans rfl
      have y7 := (kG3.cell 7).trans rfl
      have y8 := (kG3.cell 8).trans rfl
      have y9 := (kG3.cell 9).trans rfl
      have y10 := (kG3.cell 10).trans rfl
      have y11 := (kG3.cell 11).trans rfl
      have q0 := kG3.frozen 0
      have q1 := kG3.frozen 1
      have q2 := kG3.frozen 2
      have q3 := kG3.frozen 3
      have q4 := kG3.frozen 4
      have q5 := kG3.frozen 5
      have q6 := kG3.frozen 6
      have q7 := kG3.frozen 7
      have q8 := kG3.frozen 8
      have q9 := kG3.frozen 9
      have q10 := kG3.frozen 10
      have q11 := kG3.frozen 11
      have zg9 := kG3.lt
      go_wp2
      refine bodyPost_ret (v := .tuple #[.agg #[.int .i64 0, .int .i64 0, .int .i64 0, .bool false, .int .u64 0, .int .i64 0, .int .i64 0, .int .i64 0, .int .i64 0, .bool false, .int .u64 0, .int .i64 0], .int .i64 17]) (by simp [results, Try.results7, go_sem, y0, y1, y2, y3, y4, y5, y6, y7, y8, y9, y10, y11]) rfl ?_
      refine .inl ⟨by simp, rfl, ?_⟩
      iterate 12 refine Below.setCell ?_ (by show w.heap.size ≤ w.heap.size + 1; omega) _
      exact B3
    | true =>
      have HE : P = 0 := HF3.out
      subst HE
      clear HF3
      have H3 := H.below B3
      go_upto_block 0 with fail
      go_cut [9] (fun kv wx => ∃ k : Nat, k ≤ L.length ∧ kv = .int .i64 k ∧ Hid (∀ y ∈ L.take k, aheadV y ⟨h, r, s, has, bl, f⟩ = true) ∧ Hid (∀ y, L[k]? = some y → aheadV y ⟨h, r, s, has, bl, f⟩ = false) ∧ Below w3.heap.size w3 wx)
      case first =>
        go_wp2_with fail
        go_loopw [9] (fun kv wv => ∃ i : Nat, i ≤ L.length ∧ kv = .int .i64 i ∧ Hid (∀ y ∈ L.take i, aheadV y ⟨h, r, s, has, bl, f⟩ = true) ∧ Below w3.heap.size w3 wv) (fun kv _ => L.length - (intOf kv).toNat)
        case atStart => exact ⟨0, Nat.zero_le _, rfl, by intro y hy; simp at hy, Below.refl _ _⟩
        case round =>
          obtain ⟨i, hi, rfl, HT, hb⟩ := hrel
          have H4 := H3.below hb
          have g2 := (H4.k.cell 2).trans rfl
          have zg := H4.k.lt
          by_cases hlt : i < L.length
          · have hlt' : (i : Int) < (L.length : Int) := by omega
            obtain ⟨b1, o1, e1, z1, c0, c1, c2, c3, c4, c5⟩ := H4.votes.one hlt
            subst e1
            have htk := List.take_succ_eq_append_getElem hlt
            have hgt := List.getElem?_eq_getElem hlt
            generalize L[i] = y at *
            have HTK := show Hid (_ = _) from htk
            have HGT := show Hid (_ = _) from hgt
            clear htk hgt
            obtain ⟨yh, yr, ys, yhas, ybl, yf⟩ := y
            simp only at c0 c1 c2 c3 c4 c5
            have kR := H4.k
            have kV := kV3.below hb kV3.lt
            have zkv := kV.lt
            have D2 : ∀ w', Below wr.heap.size wr w' → w'.cell? ⟨rb, 2, none⟩ = some (.slice (some ⟨b1, o1, none⟩) L.length lc) := fun w' hb => ((kR.below hb kR.lt).cell 2).trans rfl
            have DV0 : ∀ w', Below wr.heap.size wr w' → w'.cell? ⟨w.heap.size, 0, none⟩ = some (.int .i64 h) := fun w' hb => ((kV.below hb kV.lt).cell 0).trans rfl
            have DV1 : ∀ w', Below wr.heap.size wr w' → w'.cell? ⟨w.heap.size, 1, none⟩ = some (.int .i64 r) := fun w' hb => ((kV.below hb kV.lt).cell 1).trans rfl
            have DV2 : ∀ w', Below wr.heap.size wr w' → w'.cell? ⟨w.heap.size, 2, none⟩ = some (.int .i64 s) := fun w' hb => ((kV.below hb kV.lt).cell 2).trans rfl
            have DV3 : ∀ w', Below wr.heap.size wr w' → w'.cell? ⟨w.heap.size, 3, none⟩ = some (.bool has) := fun w' hb => ((kV.below hb kV.lt).cell 3).trans rfl
            have DV4 : ∀ w', Below wr.heap.size wr w' → w'.cell? ⟨w.heap.size, 4, none⟩ = some (.int .u64 bl) := fun w' hb => ((kV.below hb kV.lt).cell 4).trans rfl
            have DV5 : ∀ w', Below wr.heap.size wr w' → w'.cell? ⟨w.heap.size, 5, none⟩ = some (.int .i64 f) := fun w' hb => ((kV.below hb kV.lt).cell 5).trans rfl
            have DL0 : ∀ w', Below wr.heap.size wr w' → w'.cell? ⟨b1, o1 + i * 6, none⟩ = some (.int .i64 yh) := fun w' hb => (hb.cell (p := ⟨b1, o1 + i * 6, none⟩) z1).trans c0
            have DL1 : ∀ w', Below wr.heap.size wr w' → w'.cell? ⟨b1, o1 + i * 6 + 1, none⟩ = some (.int .i64 yr) := fun w' hb => (hb.cell (p := ⟨b1, o1 + i * 6 + 1, none⟩) z1).trans c1
            have DL2 : ∀ w', Below wr.heap.size wr w' → w'.cell? ⟨b1, o1 + i * 6 + 2, none⟩ = some (.int .i64 ys) := fun w' hb => (hb.cell (p := ⟨b1, o1 + i * 6 + 2, none⟩) z1).trans c2
            have DL3 : ∀ w', Below wr.heap.size wr w' → w'.cell? ⟨b1, o1 + i * 6 + 3, none⟩ = some (.bool yhas) := fun w' hb => (hb.cell (p := ⟨b1, o1 + i * 6 + 3, none⟩) z1).trans c3
            have DL4 : ∀ w', Below wr.heap.size wr w' → w'.cell? ⟨b1, o1 + i * 6 + 4, none⟩ = some (.int .u64 ybl) := fun w' hb => (hb.cell (p := ⟨b1, o1 + i * 6 + 4, none⟩) z1).trans c4
            have DL5 : ∀ w', Below wr.heap.size wr w' → w'.cell? ⟨b1, o1 + i * 6 + 5, none⟩ = some (.int .i64 yf) := fun w' hb => (hb.cell (p := ⟨b1, o1 + i * 6 + 5, none⟩) z1).trans c5

            obtain ⟨A, hA⟩ : ∃ A, aheadV ⟨yh, yr, ys, yhas, ybl, yf⟩ ⟨h, r, s, has, bl, f⟩ = A := ⟨_, rfl⟩
            go_upto_region 11 with fail
            have bd : Below wr.heap.size wr wr.drew := (Below.refl _ _).drew
            refine wp_region_held (S := fun w' => Below wr.heap.size wr w') (by kernel_rfl) ?_
            refine wpAnyH_take (i := 0) (v := ?_) rfl (by kernel_rfl) (by kernel_rfl) (by kernel_rfl) (fun _ _ _ h => h) (Or.inl ⟨by kernel_rfl, ?_⟩) (by assumption) ?_
            rotate_left
            · intro w' hSw
              have e2 := D2 _ hSw
              have ev0 := DV0 _ hSw
              have el0 := DL0 _ hSw
              have ev1 := DV1 _ hSw
              have el1 := DL1 _ hSw
              have ev2 := DV2 _ hSw
              have el2 := DL2 _ hSw
              have ev3 := DV3 _ hSw
              have el3 := DL3 _ hSw
              have ev4 := DV4 _ hSw
              have el4 := DL4 _ hSw
              have ev5 := DV5 _ hSw
              have el5 := DL5 _ hSw
              go_simp
              first | (with_reducible rfl) | done | assumption | skip
            simp only [Act.put, List.getElem_toArray, List.getElem_cons_succ, List.getElem_cons_zero, List.setIfInBounds_toArray, List.set_cons_zero, List.set_cons_succ]
            refine wpAnyH_take (i := 1) (v := ?_) rfl (by kernel_rfl) (by kernel_rfl) (by kernel_rfl) (fun _ _ _ h => h) (Or.inl ⟨by kernel_rfl, ?_⟩) (by assumption) ?_
            rotate_left
            · intro w' hSw
              have e2 := D2 _ hSw
              have ev0 := DV0 _ hSw
              have el0 := DL0 _ hSw
              have ev1 := DV1 _ hSw
              have el1 := DL1 _ hSw
              have ev2 := DV2 _ hSw
              have el2 := DL2 _ hSw
              have ev3 := DV3 _ hSw
              have el3 := DL3 _ hSw
              have ev4 := DV4 _ hSw
              have el4 := DL4 _ hSw
              have ev5 := DV5 _ hSw
              have el5 := DL5 _ hSw
              go_simp
              first | (with_reducible rfl) | done | assumption | skip
            simp only [Act.put, List.getElem_toArray, List.getElem_cons_succ, List.getElem_cons_zero, List.setIfInBounds_toArray, List.set_cons_zero, List.set_cons_succ]
            refine wpAnyH_take (i := 2) (v := ?_) rfl (by kernel_rfl) (by kernel_rfl) (by kernel_rfl) (fun _ _ _ h => h) (Or.inl ⟨by kernel_rfl, ?_⟩) (by assumption) ?_
            rotate_left
            · intro w' hSw
              have e2 := D2 _ hSw
              have ev0 := DV0 _ hSw
              have el0 := DL0 _ hSw
              have ev1 := DV1 _ hSw
              have el1 := DL1 _ hSw
              have ev2 := DV2 _ hSw
              have el2 := DL2 _ hSw
              have ev3 := DV3 _ hSw
              have el3 := DL3 _ hSw
              have ev4 := DV4 _ hSw
              have el4 := DL4 _ hSw
              have ev5 := DV5 _ hSw
              have el5 := DL5 _ hSw
              go_simp
              first | (with_reducible rfl) | done | assumption | skip
            simp only [Act.put, List.getElem_toArray, List.getElem_cons_succ, List.getElem_cons_zero, List.setIfInBounds_toArray, List.set_cons_zero, List.set_cons_succ]
            refine wpAnyH_take (i := 3) (v := ?_) rfl (by kernel_rfl) (by kernel_rfl) (by kernel_rfl) (fun _ _ _ h => h) (Or.inl ⟨by kernel_rfl, ?_⟩) (by assumption) ?_
            rotate_left
            · intro w' hSw
              have e2 := D2 _ hSw
              have ev0 := DV0 _ hSw
              have el0 := DL0 _ hSw
              have ev1 := DV1 _ hSw
              have el1 := DL1 _ hSw
              have ev2 := DV2 _ hSw
              have el2 := DL2 _ hSw
              have ev3 := DV3 _ hSw
              have el3 := DL3 _ hSw
              have ev4 := DV4 _ hSw
              have el4 := DL4 _ hSw
              have ev5 := DV5 _ hSw
              have el5 := DL5 _ hSw
              go_simp
              first | (with_reducible rfl) | done | assumption | skip
            simp only [Act.put, List.getElem_toArray, List.getElem_cons_succ, List.getElem_cons_zero, List.setIfInBounds_toArray, List.set_cons_zero, List.set_cons_succ]
            refine wpAnyH_take (i := 4) (v := ?_) rfl (by kernel_rfl) (by kernel_rfl) (by kernel_rfl) (fun _ _ _ h => h) (Or.inl ⟨by kernel_rfl, ?_⟩) (by assumption) ?_
            rotate_left
            · intro w' hSw
              have e2 := D2 _ hSw
              have ev0 := DV0 _ hSw
              have el0 := DL0 _ hSw
              have ev1 := DV1 _ hSw
              have el1 := DL1 _ hSw
              have ev2 := DV2 _ hSw
              have el2 := DL2 _ hSw
              have ev3 := DV3 _ hSw
              have el3 := DL3 _ hSw
              have ev4 := DV4 _ hSw
              have el4 := DL4 _ hSw
              have ev5 := DV5 _ hSw
              have el5 := DL5 _ hSw
              go_simp
              first | (with_reducible rfl) | done | assumption | skip
            simp only [Act.put, List.getElem_toArray, List.getElem_cons_succ, List.getElem_cons_zero, List.setIfInBounds_toArray, List.set_cons_zero, List.set_cons_succ]
            refine wpAnyH_take (i := 5) (v := ?_) rfl (by kernel_rfl) (by kernel_rfl) (by kernel_rfl) (fun _ _ _ h => h) (Or.inl ⟨by kernel_rfl, ?_⟩) (by assumption) ?_
            rotate_left
            · intro w' hSw
              have e2 := D2 _ hSw
              have ev0 := DV0 _ hSw
              have el0 := DL0 _ hSw
              have ev1 := DV1 _ hSw
              have el1 := DL1 _ hSw
              have ev2 := DV2 _ hSw
              have el2 := DL2 _ hSw
              have ev3 := DV3 _ hSw
              have el3 := DL3 _ hSw
              have ev4 := DV4 _ hSw
              have el4 := DL4 _ hSw
              have ev5 := DV5 _ hSw
              have el5 := DL5 _ hSw
              go_simp
              first | (with_reducible rfl) | done | assumption | skip
            simp only [Act.put, List.getElem_toArray, List.getElem_cons_succ, List.getElem_cons_zero, List.setIfInBounds_toArray, List.set_cons_zero, List.set_cons_succ]
            refine wpAnyH_take (i := 6) (v := ?_) rfl (by kernel_rfl) (by kernel_rfl) (by kernel_rfl) (fun _ _ _ h => h) (Or.inl ⟨by kernel_rfl, ?_⟩) (by assumption) ?_
            rotate_left
            · intro w' hSw
              have e2 := D2 _ hSw
              have ev0 := DV0 _ hSw
              have el0 := DL0 _ hSw
              have ev1 := DV1 _ hSw
              have el1 := DL1 _ hSw
              have ev2 := DV2 _ hSw
              have el2 := DL2 _ hSw
              have ev3 := DV3 _ hSw
              have el3 := DL3 _ hSw
              have ev4 := DV4 _ hSw
              have el4 := DL4 _ hSw
              have ev5 := DV5 _ hSw
              have el5 := DL5 _ hSw
              go_simp
              first | (with_reducible rfl) | done | assumption | skip
            simp only [Act.put, List.getElem_toArray, List.getElem_cons_succ, List.getElem_cons_zero, List.setIfInBounds_toArray, List.set_cons_zero, List.set_cons_succ]
            refine wpAnyH_take (i := 7) (v := ?_) rfl (by kernel_rfl) (by kernel_rfl) (by kernel_rfl) (fun _ _ _ h => h) (Or.inl ⟨by kernel_rfl, ?_⟩) (by assumption) ?_
            rotate_left
            · intro w' hSw
              have e2 := D2 _ hSw
              have ev0 := DV0 _ hSw
              have el0 := DL0 _ hSw
              have ev1 := DV1 _ hSw
              have el1 := DL1 _ hSw
              have ev2 := DV2 _ hSw
              have el2 := DL2 _ hSw
              have ev3 := DV3 _ hSw
              have el3 := DL3 _ hSw
              have ev4 := DV4 _ hSw
              have el4 := DL4 _ hSw
              have ev5 := DV5 _ hSw
              have el5 := DL5 _ hSw
              go_simp
              first | (with_reducible rfl) | done | assumption | skip
            simp only [Act.put, List.getElem_toArray, List.getElem_cons_succ, List.getElem_cons_zero, List.setIfInBounds_toArray, List.set_cons_zero, List.set_cons_succ]
            refine wpAnyH_ready (rs := [8]) (by kernel_rfl) (by simp) ?_
            refine AllReadyH.cons rfl (fun K hK => ?_) AllReadyH.nil
            go_simp
            refine (raheadV_any ⟨yh, yr, ys, yhas, ybl, yf⟩ ⟨h, r, s, has, bl, f⟩ _).mono ?_
            rintro e w3 ⟨rfl, b3⟩
            rw [hA]
            have hN3 : Below wr.heap.size wr w3 := bd.trans (b3.mono bd.size)
            refine hK.out _ _ hN3 (fun _ => ?_)
            clear hK K
            try simp only [Act.put, List.getElem_toArray, List.getElem_cons_succ, List.getElem_cons_zero, List.setIfInBounds_toArray, List.set_cons_zero, List.set_cons_succ]
            refine wpAnyH_take (i := 9) (v := ?_) rfl (by kernel_rfl) (by kernel_rfl) (by kernel_rfl) (fun _ _ _ h => h) (Or.inl ⟨by kernel_rfl, ?_⟩) (by assumption) ?_
            rotate_left
            · intro w' hSw
              skip
              go_simp
              first | (with_reducible rfl) | done | assumption | skip
            simp only [Act.put, List.getElem_toArray, List.getElem_cons_succ, List.getElem_cons_zero, List.setIfInBounds_toArray, List.set_cons_zero, List.set_cons_succ]
            refine wpAnyH_done (by kernel_rfl) ?_ _
            have hb3 := hb.trans (hN3.mono hb.size)
            have HA := show Hid (_ = _) from hA
            clear D2 DV0 DV1 DV2 DV3 DV4 DV5 DL0 DL1 DL2 DL3 DL4 DL5 hA b3 hN3 bd
            cases A with
            | true =>
              have HN : Hid (∀ y ∈ L.take (i + 1), aheadV y ⟨h, r, s, has, bl, f⟩ = true) := by
                intro y hy
                rw [HTK.out] at hy
                rcases List.mem_append.1 hy with hy | hy
                · exact HT.out y hy
                · rw [List.mem_singleton.1 hy]; exact HA.out
              clear HT HTK HGT HA
              go_wp2
              exact ⟨⟨i + 1, by omega, by go_num, HN, hb3⟩, by simp [intOf]; omega⟩
            | false =>
              have HN : Hid (∀ y, L[i]? = some y → aheadV y ⟨h, r, s, has, bl, f⟩ = false) := fun y hy => by
                rw [HGT.out] at hy; cases hy; exact HA.out
              clear HTK HGT HA
              go_wp2
              go_meet
              case rel => exact ⟨i, hi, rfl, HT, HN, hb3⟩
          · have hge : ¬ (i : Int) < (L.length : Int) := by omega
            have hie : i = L.length := by omega
            have HN : Hid (∀ y, L[i]? = some y → aheadV y ⟨h, r, s, has, bl, f⟩ = false) := fun y hy => by
              rw [List.getElem?_eq_none (by omega)] at hy; cases hy
            clear hie
            go_wp2
            go_meet
            case rel => exact ⟨i, hi, rfl, HT, HN, hb⟩
      case rest =>
        obtain ⟨i, hi, rfl, HT, HN, bx⟩ := hcut
        generalize wc = wx at *
        have H4 := H3.below bx
        have kR4 := H4.k
        have kV4 := kV3.below bx kV3.lt
        have kG4 := kG3.below bx kG3.lt
        have B4 := B3.trans (bx.mono B3.size)
        have HO4 := owns_keep HO B4
        have hrw := H.k.lt
        have g2 := (kR4.cell 2).trans rfl
        have zg := kR4.lt
        have zkv := kV4.lt
        have u0 := (kV4.cell 0).trans rfl
        have u1 := (kV4.cell 1).trans rfl
        have u2 := (kV4.cell 2).trans rfl
        have u3 := (kV4.cell 3).trans rfl
        have u4 := (kV4.cell 4).trans rfl
        have u5 := (kV4.cell 5).trans rfl
        clear H3 kV3 kG3 B3
        by_cases hkl : i < L.length
        · have hlt' : (i : Int) < (L.length : Int) := by omega
          obtain ⟨b1, o1, e1, z1, c0, c1, c2, c3, c4, c5⟩ := H4.votes.one hkl
          have hbw : b1 < w.heap.size := by
            rcases H.votes with q | ⟨b', o', e', hl', _⟩
            · rw [q] at hkl; simp at hkl
            · rw [e1] at e'; cases e'; exact hl'
          subst e1
          have hgt := List.getElem?_eq_getElem hkl
          generalize L[i] = y at *
          have HGT := show Hid (_ = _) from hgt
          clear hgt
          obtain ⟨yh, yr, ys, yhas, ybl, yf⟩ := y
          simp only at c0 c1 c2 c3 c4 c5
          by_cases hsp : yr = r ∧ ys = s ∧ yf = f
          · obtain ⟨rfl, rfl, rfl⟩ := hsp
            go_upto_region 14 with fail
            go_quiet (fail)
            have bq : Below wx.heap.size wx (wx.drewN nq) := below_drewN (Below.refl _ _) nq
            have kR5 := kR4.below bq kR4.lt
            have kV5 := kV4.below bq kV4.lt
            have kG5 := kG4.below bq kG4.lt
            have B5 := B4.trans (bq.mono B4.size)
            have HO5 := owns_keep HO4 bq
            have hVT := H4.votes.below bq
            have hST := H4.seats.below bq
            have c0 := (bq.cell (p := ⟨b1, o1 + i * 6, none⟩) z1).trans c0
            have c1 := (bq.cell (p := ⟨b1, o1 + i * 6 + 1, none⟩) z1).trans c1
            have c2 := (bq.cell (p := ⟨b1, o1 + i * 6 + 2, none⟩) z1).trans c2
            have c3 := (bq.cell (p := ⟨b1, o1 + i * 6 + 3, none⟩) z1).trans c3
            have c4 := (bq.cell (p := ⟨b1, o1 + i * 6 + 4, none⟩) z1).trans c4
            have c5 := (bq.cell (p := ⟨b1, o1 + i * 6 + 5, none⟩) z1).trans c5
            have z1' := bq.size
            generalize wx.drewN nq = w5 at *
            have z5 : b1 < w5.heap.size := Nat.lt_of_lt_of_le z1 z1'
            clear kR4 kV4 kG4 H4 HO4 g2 zg zkv
            have g2 := (kR5.cell 2).trans rfl
            have zg := kR5.lt
            have zkv := kV5.lt
            have v0 := (kV5.cell 0).trans rfl
            have v1 := (kV5.cell 1).trans rfl
            have v2 := (kV5.cell 2).trans rfl
            have v3 := (kV5.cell 3).trans rfl
            have v4 := (kV5.cell 4).trans rfl
            have v5 := (kV5.cell 5).trans rfl
            by_cases hh : yh = h
            · by_cases hs : yhas = has
              · by_cases hb : ybl = bl
                · subst hh
                  subst hs
                  subst hb
                  go_upto_region 15 with fail
                  go_quiet (fail)
                  have bq2 : Below w5.heap.size w5 (w5.drewN nq) := below_drewN (Below.refl _ _) nq
                  have kG6 := kG5.below bq2 kG5.lt
                  have B6 := B5.trans (bq2.mono B5.size)
                  clear kG5 bq2
                  generalize w5.drewN nq = w6 at *
                  have y0 := (kG6.cell 0).trans rfl
                  have y1 := (kG6.cell 1).trans rfl
                  have y2 := (kG6.cell 2).trans rfl
                  have y3 := (kG6.cell 3).trans rfl
                  have y4 := (kG6.cell 4).trans rfl
                  have y5 := (kG6.cell 5).trans rfl
                  have y6 := (kG6.cell 6).trans rfl
                  have y7 := (kG6.cell 7).trans rfl
                  have y8 := (kG6.cell 8).trans rfl
                  have y9 := (kG6.cell 9).trans rfl
                  have y10 := (kG6.cell 10).trans rfl
                  have y11 := (kG6.cell 11).trans rfl
                  have q0 := kG6.frozen 0
                  have q1 := kG6.frozen 1
                  have q2 := kG6.frozen 2
                  have q3 := kG6.frozen 3
                  have q4 := kG6.frozen 4
                  have q5 := kG6.frozen 5
                  have q6 := kG6.frozen 6
                  have q7 := kG6.frozen 7
                  have q8 := kG6.frozen 8
                  have q9 := kG6.frozen 9
                  have q10 := kG6.frozen 10
                  have q11 := kG6.frozen 11
                  have zg9 := kG6.lt
                  go_wp2
                  refine bodyPost_ret (v := .tuple #[.agg #[.int .i64 0, .int .i64 0, .int .i64 0, .bool false, .int .u64 0, .int .i64 0, .int .i64 0, .int .i64 0, .int .i64 0, .bool false, .int .u64 0, .int .i64 0], .int .i64 31]) (by simp [results, Try.results7, go_sem, y0, y1, y2, y3, y4, y5, y6, y7, y8, y9, y10, y11]) rfl ?_
                  refine .inr ⟨rfl, i, hi, HT.out, HN.out, .inl ⟨_, HGT.out, ⟨rfl, rfl, rfl⟩, rfl, rfl, ?_⟩⟩
                  iterate 12 refine Below.setCell ?_ (by show w.heap.size ≤ w.heap.size + 1; omega) _
                  exact B6
                · -- ybl
                  have HNE : Hid ((⟨yh, yr, ys, yhas, ybl, yf⟩ : Vt) ≠ ⟨h, yr, ys, has, bl, yf⟩) := fun e => hb (by injection e)
                  have n1 : (ybl == bl) = false := by simpa using hb
                  subst hh
                  subst hs
                  go_upto_region 15 with fail
                  go_quiet (fail)
                  have bq2 : Below w5.heap.size w5 (w5.drewN nq) := below_drewN (Below.refl _ _) nq
                  have kR6 := kR5.below bq2 kR5.lt
                  have kV6 := kV5.below bq2 kV5.lt
                  have kG6 := kG5.below bq2 kG5.lt
                  have B6 := B5.trans (bq2.mono B5.size)
                  have d0 := (bq2.cell (p := ⟨b1, o1 + i * 6, none⟩) z5).trans c0
                  have d1 := (bq2.cell (p := ⟨b1, o1 + i * 6 + 1, none⟩) z5).trans c1
                  have d2 := (bq2.cell (p := ⟨b1, o1 + i * 6 + 2, none⟩) z5).trans c2
                  have d3 := (bq2.cell (p := ⟨b1, o1 + i * 6 + 3, none⟩) z5).trans c3
                  have d4 := (bq2.cell (p := ⟨b1, o1 + i * 6 + 4, none⟩) z5).trans c4
                  have d5 := (bq2.cell (p := ⟨b1, o1 + i * 6 + 5, none⟩) z5).trans c5
                  clear c0 c1 c2 c3 c4 c5 kR5 kV5 kG5 bq2
                  generalize w5.drewN nq = w6 at *
                  have zr6 := kR6.lt
                  have zv6 := kV6.lt
                  have D2 : ∀ w', OffQ (w.heap.size + 1) w6 w' → w'.cell? ⟨rb, 2, none⟩ = some (.slice (some ⟨b1, o1, none⟩) L.length lc) := fun w' hb => (hb ⟨rb, 2, none⟩ (by show rb ≠ w.heap.size + 1; omega)).trans ((kR6.cell 2).trans rfl)
                  have DV0 : ∀ w', OffQ (w.heap.size + 1) w6 w' → w'.cell? ⟨w.heap.size, 0, none⟩ = some (.int .i64 yh) := fun w' hb => (hb ⟨w.heap.size, 0, none⟩ (by show w.heap.size ≠ w.heap.size + 1; omega)).trans ((kV6.cell 0).trans rfl)
                  have DV1 : ∀ w', OffQ (w.heap.size + 1) w6 w' → w'.cell? ⟨w.heap.size, 1, none⟩ = some (.int .i64 yr) := fun w' hb => (hb ⟨w.heap.size, 1, none⟩ (by show w.heap.size ≠ w.heap.size + 1; omega)).trans ((kV6.cell 1).trans rfl)
                  have DV2 : ∀ w', OffQ (w.heap.size + 1) w6 w' → w'.cell? ⟨w.heap.size, 2, none⟩ = some (.int .i64 ys) := fun w' hb => (hb ⟨w.heap.size, 2, none⟩ (by show w.heap.size ≠ w.heap.size + 1; omega)).trans ((kV6.cell 2).trans rfl)
                  have DV3 : ∀ w', OffQ (w.heap.size + 1) w6 w' → w'.cell? ⟨w.heap.size, 3, none⟩ = some (.bool yhas) := fun w' hb => (hb ⟨w.heap.size, 3, none⟩ (by show w.heap.size ≠ w.heap.size + 1; omega)).trans ((kV6.cell 3).trans rfl)
                  have DV4 : ∀ w', OffQ (w.heap.size + 1) w6 w' → w'.cell? ⟨w.heap.size, 4, none⟩ = some (.int .u64 bl) := fun w' hb => (hb ⟨w.heap.size, 4, none⟩ (by show w.heap.size ≠ w.heap.size + 1; omega)).trans ((kV6.cell 4).trans rfl)
                  have DV5 : ∀ w', OffQ (w.heap.size + 1) w6 w' → w'.cell? ⟨w.heap.size, 5, none⟩ = some (.int .i64 yf) := fun w' hb => (hb ⟨w.heap.size, 5, none⟩ (by show w.heap.size ≠ w.heap.size + 1; omega)).trans ((kV6.cell 5).trans rfl)
                  have DL0 : ∀ w', OffQ (w.heap.size + 1) w6 w' → w'.cell? ⟨b1, o1 + i * 6, none⟩ = some (.int .i64 yh) := fun w' hb => (hb ⟨b1, o1 + i * 6, none⟩ (by show b1 ≠ w.heap.size + 1; omega)).trans d0
                  have DL1 : ∀ w', OffQ (w.heap.size + 1) w6 w' → w'.cell? ⟨b1, o1 + i * 6 + 1, none⟩ = some (.int .i64 yr) := fun w' hb => (hb ⟨b1, o1 + i * 6 + 1, none⟩ (by show b1 ≠ w.heap.size + 1; omega)).trans d1
                  have DL2 : ∀ w', OffQ (w.heap.size + 1) w6 w' → w'.cell? ⟨b1, o1 + i * 6 + 2, none⟩ = some (.int .i64 ys) := fun w' hb => (hb ⟨b1, o1 + i * 6 + 2, none⟩ (by show b1 ≠ w.heap.size + 1; omega)).trans d2
                  have DL3 : ∀ w', OffQ (w.heap.size + 1) w6 w' → w'.cell? ⟨b1, o1 + i * 6 + 3, none⟩ = some (.bool yhas) := fun w' hb => (hb ⟨b1, o1 + i * 6 + 3, none⟩ (by show b1 ≠ w.heap.size + 1; omega)).trans d3
                  have DL4 : ∀ w', OffQ (w.heap.size + 1) w6 w' → w'.cell? ⟨b1, o1 + i * 6 + 4, none⟩ = some (.int .u64 ybl) := fun w' hb => (hb ⟨b1, o1 + i * 6 + 4, none⟩ (by show b1 ≠ w.heap.size + 1; omega)).trans d4
                  have DL5 : ∀ w', OffQ (w.heap.size + 1) w6 w' → w'.cell? ⟨b1, o1 + i * 6 + 5, none⟩ = some (.int .i64 yf) := fun w' hb => (hb ⟨b1, o1 + i * 6 + 5, none⟩ (by show b1 ≠ w.heap.size + 1; omega)).trans d5
                  go_upto_region 17 with fail
                  have of0 : OffQ (w.heap.size + 1) w6 w6.drew := fun _ _ => rfl
                  refine wp_region_held (S := fun w' => OffQ (w.heap.size + 1) w6 w') (by kernel_rfl) ?_
                  refine wpAnyH_take (i := 0) (v := ?_) rfl (by kernel_rfl) (by kernel_rfl) (by kernel_rfl) (fun _ _ _ h => h) (Or.inl ⟨by kernel_rfl, ?_⟩) (by assumption) ?_
                  rotate_left
                  · intro w' hSw
                    have e2 := D2 _ hSw
                    have ev0 := DV0 _ hSw
                    have el0 := DL0 _ hSw
                    have ev1 := DV1 _ hSw
                    have el1 := DL1 _ hSw
                    have ev2 := DV2 _ hSw
                    have el2 := DL2 _ hSw
                    have ev3 := DV3 _ hSw
                    have el3 := DL3 _ hSw
                    have ev4 := DV4 _ hSw
                    have el4 := DL4 _ hSw
                    have ev5 := DV5 _ hSw
                    have el5 := DL5 _ hSw
                    go_simp
                    first | (with_reducible rfl) | done | assumption | skip
                  simp only [Act.put, List.getElem_toArray, List.getElem_cons_succ, List.getElem_cons_zero, List.setIfInBounds_toArray, List.set_cons_zero, List.set_cons_succ]
                  refine wpAnyH_take (i := 1) (v := ?_) rfl (by kernel_rfl) (by kernel_rfl) (by kernel_rfl) (fun _ _ _ h => h) (Or.inl ⟨by kernel_rfl, ?_⟩) (by assumption) ?_
                  rotate_left
                  · intro w' hSw
                    have e2 := D2 _ hSw
                    have ev0 := DV0 _ hSw
                    have el0 := DL0 _ hSw
                    have ev1 := DV1 _ hSw
                    have el1 := DL1 _ hSw
                    have ev2 := DV2 _ hSw
                    have el2 := DL2 _ hSw
                    have ev3 := DV3 _ hSw
                    have el3 := DL3 _ hSw
                    have ev4 := DV4 _ hSw
                    have el4 := DL4 _ hSw
                    have ev5 := DV5 _ hSw
                    have el5 := DL5 _ hSw
                    go_simp
                    first | (with_reducible rfl) | done | assumption | skip
                  simp only [Act.put, List.getElem_toArray, List.getElem_cons_succ, List.getElem_cons_zero, List.setIfInBounds_toArray, List.set_cons_zero, List.set_cons_succ]
                  refine wpAnyH_take (i := 2) (v := ?_) rfl (by kernel_rfl) (by kernel_rfl) (by kernel_rfl) (fun _ _ _ h => h) (Or.inl ⟨by kernel_rfl, ?_⟩) (by assumption) ?_
                  rotate_left
                  · intro w' hSw
                    have e2 := D2 _ hSw
                    have ev0 := DV0 _ hSw
                    have el0 := DL0 _ hSw
                    have ev1 := DV1 _ hSw
                    have el1 := DL1 _ hSw
                    have ev2 := DV2 _ hSw
                    have el2 := DL2 _ hSw
                    have ev3 := DV3 _ hSw
                    have el3 := DL3 _ hSw
                    have ev4 := DV4 _ hSw
                    have el4 := DL4 _ hSw
                    have ev5 := DV5 _ hSw
                    have el5 := DL5 _ hSw
                    go_simp
                    first | (with_reducible rfl) | done | assumption | skip
                  simp only [Act.put, List.getElem_toArray, List.getElem_cons_succ, List.getElem_cons_zero, List.setIfInBounds_toArray, List.set_cons_zero, List.set_cons_succ]
                  refine wpAnyH_take (i := 3) (v := ?_) rfl (by kernel_rfl) (by kernel_rfl) (by kernel_rfl) (fun _ _ _ h => h) (Or.inl ⟨by kernel_rfl, ?_⟩) (by assumption) ?_
                  rotate_left
                  · intro w' hSw
                    have e2 := D2 _ hSw
                    have ev0 := DV0 _ hSw
                    have el0 := DL0 _ hSw
                    have ev1 := DV1 _ hSw
                    have el1 := DL1 _ hSw
                    have ev2 := DV2 _ hSw
                    have el2 := DL2 _ hSw
                    have ev3 := DV3 _ hSw
                    have el3 := DL3 _ hSw
                    have ev4 := DV4 _ hSw
                    have el4 := DL4 _ hSw
                    have ev5 := DV5 _ hSw
                    have el5 := DL5 _ hSw
                    go_simp
                    first | (with_reducible rfl) | done | assumption | skip
                  simp only [Act.put, List.getElem_toArray, List.getElem_cons_succ, List.getElem_cons_zero, List.setIfInBounds_toArray, List.set_cons_zero, List.set_cons_succ]
                  refine wpAnyH_take (i := 4) (v := ?_) rfl (by kernel_rfl) (by kernel_rfl) (by kernel_rfl) (fun _ _ _ h => h) (Or.inl ⟨by kernel_rfl, ?_⟩) (by assumption) ?_
                  rotate_left
                  · intro w' hSw
                    have e2 := D2 _ hSw
                    have ev0 := DV0 _ hSw
                    have el0 := DL0 _ hSw
                    have ev1 := DV1 _ hSw
                    have el1 := DL1 _ hSw
                    have ev2 := DV2 _ hSw
                    have el2 := DL2 _ hSw
                    have ev3 := DV3 _ hSw
                    have el3 := DL3 _ hSw
                    have ev4 := DV4 _ hSw
                    have el4 := DL4 _ hSw
                    have ev5 := DV5 _ hSw
                    have el5 := DL5 _ hSw
                    go_simp
                    first | (with_reducible rfl) | done | assumption | skip
                  simp only [Act.put, List.getElem_toArray, List.getElem_cons_succ, List.getElem_cons_zero, List.setIfInBounds_toArray, List.set_cons_zero, List.set_cons_succ]
                  refine wpAnyH_take (i := 5) (v := ?_) rfl (by kernel_rfl) (by kernel_rfl) (by kernel_rfl) (fun _ _ _ h => h) (Or.inl ⟨by kernel_rfl, ?_⟩) (by assumption) ?_
                  rotate_left
                  · intro w' hSw
                    have e2 := D2 _ hSw
                    have ev0 := DV0 _ hSw
                    have el0 := DL0 _ hSw
                    have ev1 := DV1 _ hSw
                    have el1 := DL1 _ hSw
                    have ev2 := DV2 _ hSw
                    have el2 := DL2 _ hSw
                    have ev3 := DV3 _ hSw
                    have el3 := DL3 _ hSw
                    have ev4 := DV4 _ hSw
                    have el4 := DL4 _ hSw
                    have ev5 := DV5 _ hSw
                    have el5 := DL5 _ hSw
                    go_simp
                    first | (with_reducible rfl) | done | assumption | skip
                  simp only [Act.put, List.getElem_toArray, List.getElem_cons_succ, List.getElem_cons_zero, List.setIfInBounds_toArray, List.set_cons_zero, List.set_cons_succ]
                  refine wpAnyH_take (i := 6) (v := ?_) rfl (by kernel_rfl) (by kernel_rfl) (by kernel_rfl) (fun _ _ _ h => h) (Or.inl ⟨by kernel_rfl, ?_⟩) (by assumption) ?_
                  rotate_left
                  · intro w' hSw
                    have e2 := D2 _ hSw
                    have ev0 := DV0 _ hSw
                    have el0 := DL0 _ hSw
                    have ev1 := DV1 _ hSw
                    have el1 := DL1 _ hSw
                    have ev2 := DV2 _ hSw
                    have el2 := DL2 _ hSw
                    have ev3 := DV3 _ hSw
                    have el3 := DL3 _ hSw
                    have ev4 := DV4 _ hSw
                    have el4 := DL4 _ hSw
                    have ev5 := DV5 _ hSw
                    have el5 := DL5 _ hSw
                    go_simp
                    first | (with_reducible rfl) | done | assumption | skip
                  simp only [Act.put, List.getElem_toArray, List.getElem_cons_succ, List.getElem_cons_zero, List.setIfInBounds_toArray, List.set_cons_zero, List.set_cons_succ]
                  refine wpAnyH_take (i := 7) (v := ?_) rfl (by kernel_rfl) (by kernel_rfl) (by kernel_rfl) (fun _ _ _ h => h) (Or.inl ⟨by kernel_rfl, ?_⟩) (by assumption) ?_
                  rotate_left
                  · intro w' hSw
                    have e2 := D2 _ hSw
                    have ev0 := DV0 _ hSw
                    have el0 := DL0 _ hSw
                    have ev1 := DV1 _ hSw
                    have el1 := DL1 _ hSw
                    have ev2 := DV2 _ hSw
                    have el2 := DL2 _ hSw
                    have ev3 := DV3 _ hSw
                    have el3 := DL3 _ hSw
                    have ev4 := DV4 _ hSw
                    have el4 := DL4 _ hSw
                    have ev5 := DV5 _ hSw
                    have el5 := DL5 _ hSw
                    go_simp
                    first | (with_reducible rfl) | done | assumption | skip
                  simp only [Act.put, List.getElem_toArray, List.getElem_cons_succ, List.getElem_cons_zero, List.setIfInBounds_toArray, List.set_cons_zero, List.set_cons_succ]
                  refine wpAnyH_take (i := 8) (v := ?_) rfl (by kernel_rfl) (by kernel_rfl) (by kernel_rfl) (fun _ _ _ h => h) (Or.inl ⟨by kernel_rfl, ?_⟩) (by assumption) ?_
                  rotate_left
                  · intro w' hSw
                    have e2 := D2 _ hSw
                    have ev0 := DV0 _ hSw
                    have el0 := DL0 _ hSw
                    have ev1 := DV1 _ hSw
                    have el1 := DL1 _ hSw
                    have ev2 := DV2 _ hSw
                    have el2 := DL2 _ hSw
                    have ev3 := DV3 _ hSw
                    have el3 := DL3 _ hSw
                    have ev4 := DV4 _ hSw
                    have el4 := DL4 _ hSw
                    have ev5 := DV5 _ hSw
                    have el5 := DL5 _ hSw
                    go_simp
                    first | (with_reducible rfl) | done | assumption | skip
                  simp only [Act.put, List.getElem_toArray, List.getElem_cons_succ, List.getElem_cons_zero, List.setIfInBounds_toArray, List.set_cons_zero, List.set_cons_succ]
                  have y0 := (kG6.cell 0).trans rfl
                  have y1 := (kG6.cell 1).trans rfl
                  have y2 := (kG6.cell 2).trans rfl
                  have y3 := (kG6.cell 3).trans rfl
                  have y4 := (kG6.cell 4).trans rfl
                  have y5 := (kG6.cell 5).trans rfl
                  have y6 := (kG6.cell 6).trans rfl
                  have y7 := (kG6.cell 7).trans rfl
                  have y8 := (kG6.cell 8).trans rfl
                  have y9 := (kG6.cell 9).trans rfl
                  have y10 := (kG6.cell 10).trans rfl
                  have y11 := (kG6.cell 11).trans rfl
                  have q0 := kG6.frozen 0
                  have q1 := kG6.frozen 1
                  have q2 := kG6.frozen 2
                  have q3 := kG6.frozen 3
                  have q4 := kG6.frozen 4
                  have q5 := kG6.frozen 5
                  have q6 := kG6.frozen 6
                  have q7 := kG6.frozen 7
                  have q8 := kG6.frozen 8
                  have q9 := kG6.frozen 9
                  have q10 := kG6.frozen 10
                  have q11 := kG6.frozen 11
                  have zg9 := kG6.lt
                  refine wpAnyH_ready (rs := [9]) (by kernel_rfl) (by simp) ?_
                  refine AllReadyH.cons rfl (fun K hK => ?_) AllReadyH.nil
                  go_simp
                  have of1 := off12 w6 (w.heap.size + 1) (.int .i64 yh) (.int .i64 yr) (.int .i64 ys) (.bool yhas) (.int .u64 ybl) (.int .i64 yf) (.int .i64 yh) (.int .i64 yr) (.int .i64 ys) (.bool yhas) (.int .u64 bl) (.int .i64 yf)
                  refine hK.out _ _ (by with_reducible exact of1) (fun _ => ?_)
                  clear hK K
                  try simp only [Act.put, List.getElem_toArray, List.getElem_cons_succ, List.getElem_cons_zero, List.setIfInBounds_toArray, List.set_cons_zero, List.set_cons_succ]
                  refine wpAnyH_take (i := 10) (v := ?_) rfl (by kernel_rfl) (by kernel_rfl) (by kernel_rfl) (fun _ _ _ h => h) (Or.inl ⟨by kernel_rfl, ?_⟩) (by assumption) ?_
                  rotate_left
                  · intro w' hSw
                    skip
                    go_simp
                    first | (with_reducible rfl) | done | assumption | skip
                  simp only [Act.put, List.getElem_toArray, List.getElem_cons_succ, List.getElem_cons_zero, List.setIfInBounds_toArray, List.set_cons_zero, List.set_cons_succ]
                  refine wpAnyH_done (by kernel_rfl) ?_ _
                  have kF := blk12 kG6 (.int .i64 yh) (.int .i64 yr) (.int .i64 ys) (.bool yhas) (.int .u64 ybl) (.int .i64 yf) (.int .i64 yh) (.int .i64 yr) (.int .i64 ys) (.bool yhas) (.int .u64 bl) (.int .i64 yf)
                  have BF := bel12 B6 (show w.heap.size ≤ w.heap.size + 1 by omega) (.int .i64 yh) (.int .i64 yr) (.int .i64 ys) (.bool yhas) (.int .u64 ybl) (.int .i64 yf) (.int .i64 yh) (.int .i64 yr) (.int .i64 ys) (.bool yhas) (.int .u64 bl) (.int .i64 yf)
                  clear y0 y1 y2 y3 y4 y5 y6 y7 y8 y9 y10 y11 q0 q1 q2 q3 q4 q5 q6 q7 q8 q9 q10 q11 of1 of0 D2 DV0 DV1 DV2 DV3 DV4 DV5 DL0 DL1 DL2 DL3 DL4 DL5
                  generalize ((((((((((((w6.setCell ⟨w.heap.size + 1, 0, none⟩ (.int .i64 yh)).setCell ⟨w.heap.size + 1, 1, none⟩ (.int .i64 yr)).setCell ⟨w.heap.size + 1, 2, none⟩ (.int .i64 ys)).setCell ⟨w.heap.size + 1, 3, none⟩ (.bool yhas)).setCell ⟨w.heap.size + 1, 4, none⟩ (.int .u64 ybl)).setCell ⟨w.heap.size + 1, 5, none⟩ (.int .i64 yf)).setCell ⟨w.heap.size + 1, 6, none⟩ (.int .i64 yh)).setCell ⟨w.heap.size + 1, 7, none⟩ (.int .i64 yr)).setCell ⟨w.heap.size + 1, 8, none⟩ (.int .i64 ys)).setCell ⟨w.heap.size + 1, 9, none⟩ (.bool yhas)).setCell ⟨w.heap.size + 1, 10, none⟩ (.int .u64 bl)).setCell ⟨w.heap.size + 1, 11, none⟩ (.int .i64 yf)).drew = w7 at *
                  have y0 := (kF.cell 0).trans rfl
                  have y1 := (kF.cell 1).trans rfl
                  have y2 := (kF.cell 2).trans rfl
                  have y3 := (kF.cell 3).trans rfl
                  have y4 := (kF.cell 4).trans rfl
                  have y5 := (kF.cell 5).trans rfl
                  have y6 := (kF.cell 6).trans rfl
                  have y7 := (kF.cell 7).trans rfl
                  have y8 := (kF.cell 8).trans rfl
                  have y9 := (kF.cell 9).trans rfl
                  have y10 := (kF.cell 10).trans rfl
                  have y11 := (kF.cell 11).trans rfl
                  go_wp2
                  refine bodyPost_ret (v := .tuple #[.agg #[.int .i64 yh, .int .i64 yr, .int .i64 ys, .bool yhas, .int .u64 ybl, .int .i64 yf, .int .i64 yh, .int .i64 yr, .int .i64 ys, .bool yhas, .int .u64 bl, .int .i64 yf], .int .i64 23]) (by simp [results, Try.results7, go_sem, y0, y1, y2, y3, y4, y5, y6, y7, y8, y9, y10, y11]) rfl ?_
                  exact .inr ⟨rfl, i, hi, HT.out, HN.out, .inr (.inl ⟨_, HGT.out, ⟨rfl, rfl, rfl⟩, HNE.out, rfl, BF⟩)⟩
              · -- yhas
                have HNE : Hid ((⟨yh, yr, ys, yhas, ybl, yf⟩ : Vt) ≠ ⟨h, yr, ys, has, bl, yf⟩) := fun e => hs (by injection e)
                have n1 : (yhas == has) = false := by simpa using hs
                subst hh
                go_upto_region 15 with fail
                go_quiet (fail)
                have bq2 : Below w5.heap.size w5 (w5.drewN nq) := below_drewN (Below.refl _ _) nq
                have kR6 := kR5.below bq2 kR5.lt
                have kV6 := kV5.below bq2 kV5.lt
                have kG6 := kG5.below bq2 kG5.lt
                have B6 := B5.trans (bq2.mono B5.size)
                have d0 := (bq2.cell (p := ⟨b1, o1 + i * 6, none⟩) z5).trans c0
                have d1 := (bq2.cell (p := ⟨b1, o1 + i * 6 + 1, none⟩) z5).trans c1
                have d2 := (bq2.cell (p := ⟨b1, o1 + i * 6 + 2, none⟩) z5).trans c2
                have d3 := (bq2.cell (p := ⟨b1, o1 + i * 6 + 3, none⟩) z5).trans c3
                have d4 := (bq2.cell (p := ⟨b1, o1 + i * 6 + 4, none⟩) z5).trans c4
                have d5 := (bq2.cell (p := ⟨b1, o1 + i * 6 + 5, none⟩) z5).trans c5
                clear c0 c1 c2 c3 c4 c5 kR5 kV5 kG5 bq2
                generalize w5.drewN nq = w6 at *
                have zr6 := kR6.lt
                have zv6 := kV6.lt
                have D2 : ∀ w', OffQ (w.heap.size + 1) w6 w' → w'.cell? ⟨rb, 2, none⟩ = some (.slice (some ⟨b1, o1, none⟩) L.length lc) := fun w' hb => (hb ⟨rb, 2, none⟩ (by show rb ≠ w.heap.size + 1; omega)).trans ((kR6.cell 2).trans rfl)
                have DV0 : ∀ w', OffQ (w.heap.size + 1) w6 w' → w'.cell? ⟨w.heap.size, 0, none⟩ = some (.int .i64 yh) := fun w' hb => (hb ⟨w.heap.size, 0, none⟩ (by show w.heap.size ≠ w.heap.size + 1; omega)).trans ((kV6.cell 0).trans rfl)
                have DV1 : ∀ w', OffQ (w.heap.size + 1) w6 w' → w'.cell? ⟨w.heap.size, 1, none⟩ = some (.int .i64 yr) := fun w' hb => (hb ⟨w.heap.size, 1, none⟩ (by show w.heap.size ≠ w.heap.size + 1; omega)).trans ((kV6.cell 1).trans rfl)
                have DV2 : ∀ w', OffQ (w.heap.size + 1) w6 w' → w'.cell? ⟨w.heap.size, 2, none⟩ = some (.int .i64 ys) := fun w' hb => (hb ⟨w.heap.size, 2, none⟩ (by show w.heap.size ≠ w.heap.size + 1; omega)).trans ((kV6.cell 2).trans rfl)
                have DV3 : ∀ w', OffQ (w.heap.size + 1) w6 w' → w'.cell? ⟨w.heap.size, 3, none⟩ = some (.bool has) := fun w' hb => (hb ⟨w.heap.size, 3, none⟩ (by show w.heap.size ≠ w.heap.size + 1; omega)).trans ((kV6.cell 3).trans rfl)
                have DV4 : ∀ w', OffQ (w.heap.size + 1) w6 w' → w'.cell? ⟨w.heap.size, 4, none⟩ = some (.int .u64 bl) := fun w' hb => (hb ⟨w.heap.size, 4, none⟩ (by show w.heap.size ≠ w.heap.size + 1; omega)).trans ((kV6.cell 4).trans rfl)
                have DV5 : ∀ w', OffQ (w.heap.size + 1) w6 w' → w'.cell? ⟨w.heap.size, 5, none⟩ = some (.int .i64 yf) := fun w' hb => (hb ⟨w.heap.size, 5, none⟩ (by show w.heap.size ≠ w.heap.size + 1; omega)).trans ((kV6.cell 5).trans rfl)
                have DL0 : ∀ w', OffQ (w.heap.size + 1) w6 w' → w'.cell? ⟨b1, o1 + i * 6, none⟩ = some (.int .i64 yh) := fun w' hb => (hb ⟨b1, o1 + i * 6, none⟩ (by show b1 ≠ w.heap.size + 1; omega)).trans d0
                have DL1 : ∀ w', OffQ (w.heap.size + 1) w6 w' → w'.cell? ⟨b1, o1 + i * 6 + 1, none⟩ = some (.int .i64 yr) := fun w' hb => (hb ⟨b1, o1 + i * 6 + 1, none⟩ (by show b1 ≠ w.heap.size + 1; omega)).trans d1
                have DL2 : ∀ w', OffQ (w.heap.size + 1) w6 w' → w'.cell? ⟨b1, o1 + i * 6 + 2, none⟩ = some (.int .i64 ys) := fun w' hb => (hb ⟨b1, o1 + i * 6 + 2, none⟩ (by show b1 ≠ w.heap.size + 1; omega)).trans d2
                have DL3 : ∀ w', OffQ (w.heap.size + 1) w6 w' → w'.cell? ⟨b1, o1 + i * 6 + 3, none⟩ = some (.bool yhas) := fun w' hb => (hb ⟨b1, o1 + i * 6 + 3, none⟩ (by show b1 ≠ w.heap.size + 1; omega)).trans d3
                have DL4 : ∀ w', OffQ (w.heap.size + 1) w6 w' → w'.cell? ⟨b1, o1 + i * 6 + 4, none⟩ = some (.int .u64 ybl) := fun w' hb => (hb ⟨b1, o1 + i * 6 + 4, none⟩ (by show b1 ≠ w.heap.size + 1; omega)).trans d4
                have DL5 : ∀ w', OffQ (w.heap.size + 1) w6 w' → w'.cell? ⟨b1, o1 + i * 6 + 5, none⟩ = some (.int .i64 yf) := fun w' hb => (hb ⟨b1, o1 + i * 6 + 5, none⟩ (by show b1 ≠ w.heap.size + 1; omega)).trans d5
                go_upto_region 17 with fail
                have of0 : OffQ (w.heap.size + 1) w6 w6.drew := fun _ _ => rfl
                refine wp_region_held (S := fun w' => OffQ (w.heap.size + 1) w6 w') (by kernel_rfl) ?_
                refine wpAnyH_take (i := 0) (v := ?_) rfl (by kernel_rfl) (by kernel_rfl) (by kernel_rfl) (fun _ _ _ h => h) (Or.inl ⟨by kernel_rfl, ?_⟩) (by assumption) ?_
                rotate_left
                · intro w' hSw
                  have e2 := D2 _ hSw
                  have ev0 := DV0 _ hSw
                  have el0 := DL0 _ hSw
                  have ev1 := DV1 _ hSw
                  have el1 := DL1 _ hSw
                  have ev2 := DV2 _ hSw
                  have el2 := DL2 _ hSw
                  have ev3 := DV3 _ hSw
                  have el3 := DL3 _ hSw
                  have ev4 := DV4 _ hSw
                  have el4 := DL4 _ hSw
                  have ev5 := DV5 _ hSw
                  have el5 := DL5 _ hSw
                  go_simp
                  first | (with_reducible rfl) | done | assumption | skip
                simp only [Act.put, List.getElem_toArray, List.getElem_cons_succ, List.getElem_cons_zero, List.setIfInBounds_toArray, List.set_cons_zero, List.set_cons_succ]
                refine wpAnyH_take (i := 1) (v := ?_) rfl (by kernel_rfl) (by kernel_rfl) (by kernel_rfl) (fun _ _ _ h => h) (Or.inl ⟨by kernel_rfl, ?_⟩) (by assumption) ?_
                rotate_left
                · intro w' hSw
                  have e2 := D2 _ hSw
                  have ev0 := DV0 _ hSw
                  have el0 := DL0 _ hSw
                  have ev1 := DV1 _ hSw
                  have el1 := DL1 _ hSw
                  have ev2 := DV2 _ hSw
                  have el2 := DL2 _ hSw
                  have ev3 := DV3 _ hSw
                  have el3 := DL3 _ hSw
                  have ev4 := DV4 _ hSw
                  have el4 := DL4 _ hSw
                  have ev5 := DV5 _ hSw
                  have el5 := DL5 _ hSw
                  go_simp
                  first | (with_reducible rfl) | done | assumption | skip
                simp only [Act.put, List.getElem_toArray, List.getElem_cons_succ, List.getElem_cons_zero, List.setIfInBounds_toArray, List.set_cons_zero, List.set_cons_succ]
                refine wpAnyH_take (i := 2) (v := ?_) rfl (by kernel_rfl) (by kernel_rfl) (by kernel_rfl) (fun _ _ _ h => h) (Or.inl ⟨by kernel_rfl, ?_⟩) (by assumption) ?_
                rotate_left
                · intro w' hSw
                  have e2 := D2 _ hSw
                  have ev0 := DV0 _ hSw
                  have el0 := DL0 _ hSw
                  have ev1 := DV1 _ hSw
                  have el1 := DL1 _ hSw
                  have ev2 := DV2 _ hSw
                  have el2 := DL2 _ hSw
                  have ev3 := DV3 _ hSw
                  have el3 := DL3 _ hSw
                  have ev4 := DV4 _ hSw
                  have el4 := DL4 _ hSw
                  have ev5 := DV5 _ hSw
                  have el5 := DL5 _ hSw
                  go_simp
                  first | (with_reducible rfl) | done | assumption | skip
                simp only [Act.put, List.getElem_toArray, List.getElem_cons_succ, List.getElem_cons_zero, List.setIfInBounds_toArray, List.set_cons_zero, List.set_cons_succ]
                refine wpAnyH_take (i := 3) (v := ?_) rfl (by kernel_rfl) (by kernel_rfl) (by kernel_rfl) (fun _ _ _ h => h) (Or.inl ⟨by kernel_rfl, ?_⟩) (by assumption) ?_
                rotate_left
                · intro w' hSw
                  have e2 := D2 _ hSw
                  have ev0 := DV0 _ hSw
                  have el0 := DL0 _ hSw
                  have ev1 := DV1 _ hSw
                  have el1 := DL1 _ hSw
                  have ev2 := DV2 _ hSw
                  have el2 := DL2 _ hSw
                  have ev3 := DV3 _ hSw
                  have el3 := DL3 _ hSw
                  have ev4 := DV4 _ hSw
                  have el4 := DL4 _ hSw
                  have ev5 := DV5 _ hSw
                  have el5 := DL5 _ hSw
                  go_simp
                  first | (with_reducible rfl) | done | assumption | skip
                simp only [Act.put, List.getElem_toArray, List.getElem_cons_succ, List.getElem_cons_zero, List.setIfInBounds_toArray, List.set_cons_zero, List.set_cons_succ]
                refine wpAnyH_take (i := 4) (v := ?_) rfl (by kernel_rfl) (by kernel_rfl) (by kernel_rfl) (fun _ _ _ h => h) (Or.inl ⟨by kernel_rfl, ?_⟩) (by assumption) ?_
                rotate_left
                · intro w' hSw
                  have e2 := D2 _ hSw
                  have ev0 := DV0 _ hSw
                  have el0 := DL0 _ hSw
                  have ev1 := DV1 _ hSw
                  have el1 := DL1 _ hSw
                  have ev2 := DV2 _ hSw
                  have el2 := DL2 _ hSw
                  have ev3 := DV3 _ hSw
                  have el3 := DL3 _ hSw
                  have ev4 := DV4 _ hSw
                  have el4 := DL4 _ hSw
                  have ev5 := DV5 _ hSw
                  have el5 := DL5 _ hSw
                  go_simp
                  first | (with_reducible rfl) | done | assumption | skip
                simp only [Act.put, List.getElem_toArray, List.getElem_cons_succ, List.getElem_cons_zero, List.setIfInBounds_toArray, List.set_cons_zero, List.set_cons_succ]
                refine wpAnyH_take (i := 5) (v := ?_) rfl (by kernel_rfl) (by kernel_rfl) (by kernel_rfl) (fun _ _ _ h => h) (Or.inl ⟨by kernel_rfl, ?_⟩) (by assumption) ?_
                rotate_left
                · intro w' hSw
                  have e2 := D2 _ hSw
                  have ev0 := DV0 _ hSw
                  have el0 := DL0 _ hSw
                  have ev1 := DV1 _ hSw
                  have el1 := DL1 _ hSw
                  have ev2 := DV2 _ hSw
                  have el2 := DL2 _ hSw
                  have ev3 := DV3 _ hSw
                  have el3 := DL3 _ hSw
                  have ev4 := DV4 _ hSw
                  have el4 := DL4 _ hSw
                  have ev5 := DV5 _ hSw
                  have el5 := DL5 _ hSw
                  go_simp
                  first | (with_reducible rfl) | done | assumption | skip
                simp only [Act.put, List.getElem_toArray, List.getElem_cons_succ, List.getElem_cons_zero, List.setIfInBounds_toArray, List.set_cons_zero, List.set_cons_succ]
                refine wpAnyH_take (i := 6) (v := ?_) rfl (by kernel_rfl) (by kernel_rfl) (by kernel_rfl) (fun _ _ _ h => h) (Or.inl ⟨by kernel_rfl, ?_⟩) (by assumption) ?_
                rotate_left
                · intro w' hSw
                  have e2 := D2 _ hSw
                  have ev0 := DV0 _ hSw
                  have el0 := DL0 _ hSw
                  have ev1 := DV1 _ hSw
                  have el1 := DL1 _ hSw
                  have ev2 := DV2 _ hSw
                  have el2 := DL2 _ hSw
                  have ev3 := DV3 _ hSw
                  have el3 := DL3 _ hSw
                  have ev4 := DV4 _ hSw
                  have el4 := DL4 _ hSw
                  have ev5 := DV5 _ hSw
                  have el5 := DL5 _ hSw
                  go_simp
                  first | (with_reducible rfl) | done | assumption | skip
                simp only [Act.put, List.getElem_toArray, List.getElem_cons_succ, List.getElem_cons_zero, List.setIfInBounds_toArray, List.set_cons_zero, List.set_cons_succ]
                refine wpAnyH_take (i := 7) (v := ?_) rfl (by kernel_rfl) (by kernel_rfl) (by kernel_rfl) (fun _ _ _ h => h) (Or.inl ⟨by kernel_rfl, ?_⟩) (by assumption) ?_
                rotate_left
                · intro w' hSw
                  have e2 := D2 _ hSw
                  have ev0 := DV0 _ hSw
                  have el0 := DL0 _ hSw
                  have ev1 := DV1 _ hSw
                  have el1 := DL1 _ hSw
                  have ev2 := DV2 _ hSw
                  have el2 := DL2 _ hSw
                  have ev3 := DV3 _ hSw
                  have el3 := DL3 _ hSw
                  have ev4 := DV4 _ hSw
                  have el4 := DL4 _ hSw
                  have ev5 := DV5 _ hSw
                  have el5 := DL5 _ hSw
                  go_simp
                  first | (with_reducible rfl) | done | assumption | skip
                simp only [Act.put, List.getElem_toArray, List.getElem_cons_succ, List.getElem_cons_zero, List.setIfInBounds_toArray, List.set_cons_zero, List.set_cons_succ]
                refine wpAnyH_take (i := 8) (v := ?_) rfl (by kernel_rfl) (by kernel_rfl) (by kernel_rfl) (fun _ _ _ h => h) (Or.inl ⟨by kernel_rfl, ?_⟩) (by assumption) ?_
                rotate_left
                · intro w' hSw
                  have e2 := D2 _ hSw
                  have ev0 := DV0 _ hSw
                  have el0 := DL0 _ hSw
                  have ev1 := DV1 _ hSw
                  have el1 := DL1 _ hSw
                  have ev2 := DV2 _ hSw
                  have el2 := DL2 _ hSw
                  have ev3 := DV3 _ hSw
                  have el3 := DL3 _ hSw
                  have ev4 := DV4 _ hSw
                  have el4 := DL4 _ hSw
                  have ev5 := DV5 _ hSw
                  have el5 := DL5 _ hSw
                  go_simp
                  first | (with_reducible rfl) | done | assumption | skip
                simp only [Act.put, List.getElem_toArray, List.getElem_cons_succ, List.getElem_cons_zero, List.setIfInBounds_toArray, List.set_cons_zero, List.set_cons_succ]
                have y0 := (kG6.cell 0).trans rfl
                have y1 := (kG6.cell 1).trans rfl
                have y2 := (kG6.cell 2).trans rfl
                have y3 := (kG6.cell 3).trans rfl
                have y4 := (kG6.cell 4).trans rfl
                have y5 := (kG6.cell 5).trans rfl
                have y6 := (kG6.cell 6).trans rfl
                have y7 := (kG6.cell 7).trans rfl
                have y8 := (kG6.cell 8).trans rfl
                have y9 := (kG6.cell 9).trans rfl
                have y10 := (kG6.cell 10).trans rfl
                have y11 := (kG6.cell 11).trans rfl
                have q0 := kG6.frozen 0
                have q1 := kG6.frozen 1
                have q2 := kG6.frozen 2
                have q3 := kG6.frozen 3
                have q4 := kG6.frozen 4
                have q5 := kG6.frozen 5
                have q6 := kG6.frozen 6
                have q7 := kG6.frozen 7
                have q8 := kG6.frozen 8
                have q9 := kG6.frozen 9
                have q10 := kG6.frozen 10
                have q11 := kG6.frozen 11
                have zg9 := kG6.lt
                refine wpAnyH_ready (rs := [9]) (by kernel_rfl) (by simp) ?_
                refine AllReadyH.cons rfl (fun K hK => ?_) AllReadyH.nil
                go_simp
                have of1 := off12 w6 (w.heap.size + 1) (.int .i64 yh) (.int .i64 yr) (.int .i64 ys) (.bool yhas) (.int .u64 ybl) (.int .i64 yf) (.int .i64 yh) (.int .i64 yr) (.int .i64 ys) (.bool has) (.int .u64 bl) (.int .i64 yf)
                refine hK.out _ _ (by with_reducible exact of1) (fun _ => ?_)
                clear hK K
                try simp only [Act.put, List.getElem_toArray, List.getElem_cons_succ, List.getElem_cons_zero, List.setIfInBounds_toArray, List.set_cons_zero, List.set_cons_succ]
                refine wpAnyH_take (i := 10) (v := ?_) rfl (by kernel_rfl) (by kernel_rfl) (by kernel_rfl) (fun _ _ _ h => h) (Or.inl ⟨by kernel_rfl, ?_⟩) (by assumption) ?_
                rotate_left
                · intro w' hSw
                  skip
                  go_simp
                  first | (with_reducible rfl) | done | assumption | skip
                simp only [Act.put, List.getElem_toArray, List.getElem_cons_succ, List.getElem_cons_zero, List.setIfInBounds_toArray, List.set_cons_zero, List.set_cons_succ]
                refine wpAnyH_done (by kernel_rfl) ?_ _
                have kF := blk12 kG6 (.int .i64 yh) (.int .i64 yr) (.int .i64 ys) (.bool yhas) (.int .u64 ybl) (.int .i64 yf) (.int .i64 yh) (.int .i64 yr) (.int .i64 ys) (.bool has) (.int .u64 bl) (.int .i64 yf)
                have BF := bel12 B6 (show w.heap.size ≤ w.heap.size + 1 by omega) (.int .i64 yh) (.int .i64 yr) (.int .i64 ys) (.bool yhas) (.int .u64 ybl) (.int .i64 yf) (.int .i64 yh) (.int .i64 yr) (.int .i64 ys) (.bool has) (.int .u64 bl) (.int .i64 yf)
                clear y0 y1 y2 y3 y4 y5 y6 y7 y8 y9 y10 y11 q0 q1 q2 q3 q4 q5 q6 q7 q8 q9 q10 q11 of1 of0 D2 DV0 DV1 DV2 DV3 DV4 DV5 DL0 DL1 DL2 DL3 DL4 DL5
                generalize ((((((((((((w6.setCell ⟨w.heap.size + 1, 0, none⟩ (.int .i64 yh)).setCell ⟨w.heap.size + 1, 1, none⟩ (.int .i64 yr)).setCell ⟨w.heap.size + 1, 2, none⟩ (.int .i64 ys)).setCell ⟨w.heap.size + 1, 3, none⟩ (.bool yhas)).setCell ⟨w.heap.size + 1, 4, none⟩ (.int .u64 ybl)).setCell ⟨w.heap.size + 1, 5, none⟩ (.int .i64 yf)).setCell ⟨w.heap.size + 1, 6, none⟩ (.int .i64 yh)).setCell ⟨w.heap.size + 1, 7, none⟩ (.int .i64 yr)).setCell ⟨w.heap.size + 1, 8, none⟩ (.int .i64 ys)).setCell ⟨w.heap.size + 1, 9, none⟩ (.bool has)).setCell ⟨w.heap.size + 1, 10, none⟩ (.int .u64 bl)).setCell ⟨w.heap.size + 1, 11, none⟩ (.int .i64 yf)).drew = w7 at *
                have y0 := (kF.cell 0).trans rfl
                have y1 := (kF.cell 1).trans rfl
                have y2 := (kF.cell 2).trans rfl
                have y3 := (kF.cell 3).trans rfl
                have y4 := (kF.cell 4).trans rfl
                have y5 := (kF.cell 5).trans rfl
                have y6 := (kF.cell 6).trans rfl
                have y7 := (kF.cell 7).trans rfl
                have y8 := (kF.cell 8).trans rfl
                have y9 := (kF.cell 9).trans rfl
                have y10 := (kF.cell 10).trans rfl
                have y11 := (kF.cell 11).trans rfl
                go_wp2
                refine bodyPost_ret (v := .tuple #[.agg #[.int .i64 yh, .int .i64 yr, .int .i64 ys, .bool yhas, .int .u64 ybl, .int .i64 yf, .int .i64 yh, .int .i64 yr, .int .i64 ys, .bool has, .int .u64 bl, .int .i64 yf], .int .i64 23]) (by simp [results, Try.results7, go_sem, y0, y1, y2, y3, y4, y5, y6, y7, y8, y9, y10, y11]) rfl ?_
                exact .inr ⟨rfl, i, hi, HT.out, HN.out, .inr (.inl ⟨_, HGT.out, ⟨rfl, rfl, rfl⟩, HNE.out, rfl, BF⟩)⟩
            · -- yh
              have HNE : Hid ((⟨yh, yr, ys, yhas, ybl, yf⟩ : Vt) ≠ ⟨h, yr, ys, has, bl, yf⟩) := fun e => hh (by injection e)
              have n1 : (yh == h) = false := by simpa using hh
              skip
              go_upto_region 15 with fail
              go_quiet (fail)
              have bq2 : Below w5.heap.size w5 (w5.drewN nq) := below_drewN (Below.refl _ _) nq
              have kR6 := kR5.below bq2 kR5.lt
              have kV6 := kV5.below bq2 kV5.lt
              have kG6 := kG5.below bq2 kG5.lt
              have B6 := B5.trans (bq2.mono B5.size)
              have d0 := (bq2.cell (p := ⟨b1, o1 + i * 6, none⟩) z5).trans c0
              have d1 := (bq2.cell (p := ⟨b1, o1 + i * 6 + 1, none⟩) z5).trans c1
              have d2 := (bq2.cell (p := ⟨b1, o1 + i * 6 + 2, none⟩) z5).trans c2
              have d3 := (bq2.cell (p := ⟨b1, o1 + i * 6 + 3, none⟩) z5).trans c3
              have d4 := (bq2.cell (p := ⟨b1, o1 + i * 6 + 4, none⟩) z5).trans c4
              have d5 := (bq2.cell (p := ⟨b1, o1 + i * 6 + 5, none⟩) z5).trans c5
              clear c0 c1 c2 c3 c4 c5 kR5 kV5 kG5 bq2
              generalize w5.drewN nq = w6 at *
              have zr6 := kR6.lt
              have zv6 := kV6.lt
              have D2 : ∀ w', OffQ (w.heap.size + 1) w6 w' → w'.cell? ⟨rb, 2, none⟩ = some (.slice (some ⟨b1, o1, none⟩) L.length lc) := fun w' hb => (hb ⟨rb, 2, none⟩ (by show rb ≠ w.heap.size + 1; omega)).trans ((kR6.cell 2).trans rfl)
              have DV0 : ∀ w', OffQ (w.heap.size + 1) w6 w' → w'.cell? ⟨w.heap.size, 0, none⟩ = some (.int .i64 h) := fun w' hb => (hb ⟨w.heap.size, 0, none⟩ (by show w.heap.size ≠ w.heap.size + 1; omega)).trans ((kV6.cell 0).trans rfl)
              have DV1 : ∀ w', OffQ (w.heap.size + 1) w6 w' → w'.cell? ⟨w.heap.size, 1, none⟩ = some (.int .i64 yr) := fun w' hb => (hb ⟨w.heap.size, 1, none⟩ (by show w.heap.size ≠ w.heap.size + 1; omega)).trans ((kV6.cell 1).trans rfl)
              have DV2 : ∀ w', OffQ (w.heap.size + 1) w6 w' → w'.cell? ⟨w.heap.size, 2, none⟩ = some (.int .i64 ys) := fun w' hb => (hb ⟨w.heap.size, 2, none⟩ (by show w.heap.size ≠ w.heap.size + 1; omega)).trans ((kV6.cell 2).trans rfl)
              have DV3 : ∀ w', OffQ (w.heap.size + 1) w6 w' → w'.cell? ⟨w.heap.size, 3, none⟩ = some (.bool has) := fun w' hb => (hb ⟨w.heap.size, 3, none⟩ (by show w.heap.size ≠ w.heap.size + 1; omega)).trans ((kV6.cell 3).trans rfl)
              have DV4 : ∀ w', OffQ (w.heap.size + 1) w6 w' → w'.cell? ⟨w.heap.size, 4, none⟩ = some (.int .u64 bl) := fun w' hb => (hb ⟨w.heap.size, 4, none⟩ (by show w.heap.size ≠ w.heap.size + 1; omega)).trans ((kV6.cell 4).trans rfl)
              have DV5 : ∀ w', OffQ (w.heap.size + 1) w6 w' → w'.cell? ⟨w.heap.size, 5, none⟩ = some (.int .i64 yf) := fun w' hb => (hb ⟨w.heap.size, 5, none⟩ (by show w.heap.size ≠ w.heap.size + 1; omega)).trans ((kV6.cell 5).trans rfl)
              have DL0 : ∀ w', OffQ (w.heap.size + 1) w6 w' → w'.cell? ⟨b1, o1 + i * 6, none⟩ = some (.int .i64 yh) := fun w' hb => (hb ⟨b1, o1 + i * 6, none⟩ (by show b1 ≠ w.heap.size + 1; omega)).trans d0
              have DL1 : ∀ w', OffQ (w.heap.size + 1) w6 w' → w'.cell? ⟨b1, o1 + i * 6 + 1, none⟩ = some (.int .i64 yr) := fun w' hb => (hb ⟨b1, o1 + i * 6 + 1, none⟩ (by show b1 ≠ w.heap.size + 1; omega)).trans d1
              have DL2 : ∀ w', OffQ (w.heap.size + 1) w6 w' → w'.cell? ⟨b1, o1 + i * 6 + 2, none⟩ = some (.int .i64 ys) := fun w' hb => (hb ⟨b1, o1 + i * 6 + 2, none⟩ (by show b1 ≠ w.heap.size + 1; omega)).trans d2
              have DL3 : ∀ w', OffQ (w.heap.size + 1) w6 w' → w'.cell? ⟨b1, o1 + i * 6 + 3, none⟩ = some (.bool yhas) := fun w' hb => (hb ⟨b1, o1 + i * 6 + 3, none⟩ (by show b1 ≠ w.heap.size + 1; omega)).trans d3
              have DL4 : ∀ w', OffQ (w.heap.size + 1) w6 w' → w'.cell? ⟨b1, o1 + i * 6 + 4, none⟩ = some (.int .u64 ybl) := fun w' hb => (hb ⟨b1, o1 + i * 6 + 4, none⟩ (by show b1 ≠ w.heap.size + 1; omega)).trans d4
              have DL5 : ∀ w', OffQ (w.heap.size + 1) w6 w' → w'.cell? ⟨b1, o1 + i * 6 + 5, none⟩ = some (.int .i64 yf) := fun w' hb => (hb ⟨b1, o1 + i * 6 + 5, none⟩ (by show b1 ≠ w.heap.size + 1; omega)).trans d5
              go_upto_region 17 with fail
              have of0 : OffQ (w.heap.size + 1) w6 w6.drew := fun _ _ => rfl
              refine wp_region_held (S := fun w' => OffQ (w.heap.size + 1) w6 w') (by kernel_rfl) ?_
              refine wpAnyH_take (i := 0) (v := ?_) rfl (by kernel_rfl) (by kernel_rfl) (by kernel_rfl) (fun _ _ _ h => h) (Or.inl ⟨by kernel_rfl, ?_⟩) (by assumption) ?_
              rotate_left
              · intro w' hSw
                have e2 := D2 _ hSw
                have ev0 := DV0 _ hSw
                have el0 := DL0 _ hSw
                have ev1 := DV1 _ hSw
                have el1 := DL1 _ hSw
                have ev2 := DV2 _ hSw
                have el2 := DL2 _ hSw
                have ev3 := DV3 _ hSw
                have el3 := DL3 _ hSw
                have ev4 := DV4 _ hSw
                have el4 := DL4 _ hSw
                have ev5 := DV5 _ hSw
                have el5 := DL5 _ hSw
                go_simp
                first | (with_reducible rfl) | done | assumption | skip
              simp only [Act.put, List.getElem_toArray, List.getElem_cons_succ, List.getElem_cons_zero, List.setIfInBounds_toArray, List.set_cons_zero, List.set_cons_succ]
              refine wpAnyH_take (i := 1) (v := ?_) rfl (by kernel_rfl) (by kernel_rfl) (by kernel_rfl) (fun _ _ _ h => h) (Or.inl ⟨by kernel_rfl, ?_⟩) (by assumption) ?_
              rotate_left
              · intro w' hSw
                have e2 := D2 _ hSw
                have ev0 := DV0 _ hSw
                have el0 := DL0 _ hSw
                have ev1 := DV1 _ hSw
                have el1 := DL1 _ hSw
                have ev2 := DV2 _ hSw
                have el2 := DL2 _ hSw
                have ev3 := DV3 _ hSw
                have el3 := DL3 _ hSw
                have ev4 := DV4 _ hSw
                have el4 := DL4 _ hSw
                have ev5 := DV5 _ hSw
                have el5 := DL5 _ hSw
                go_simp
                first | (with_reducible rfl) | done | assumption | skip
              simp only [Act.put, List.getElem_toArray, List.getElem_cons_succ, List.getElem_cons_zero, List.setIfInBounds_toArray, List.set_cons_zero, List.set_cons_succ]
              refine wpAnyH_take (i := 2) (v := ?_) rfl (by kernel_rfl) (by kernel_rfl) (by kernel_rfl) (fun _ _ _ h => h) (Or.inl ⟨by kernel_rfl, ?_⟩) (by assumption) ?_
              rotate_left
              · intro w' hSw
                have e2 := D2 _ hSw
                have ev0 := DV0 _ hSw
                have el0 := DL0 _ hSw
                have ev1 := DV1 _ hSw
                have el1 := DL1 _ hSw
                have ev2 := DV2 _ hSw
                have el2 := DL2 _ hSw
                have ev3 := DV3 _ hSw
                have el3 := DL3 _ hSw
                have ev4 := DV4 _ hSw
                have el4 := DL4 _ hSw
                have ev5 := DV5 _ hSw
                have el5 := DL5 _ hSw
                go_simp
                first | (with_reducible rfl) | done | assumption | skip
              simp only [Act.put, List.getElem_toArray, List.getElem_cons_succ, List.getElem_cons_zero, List.setIfInBounds_toArray, List.set_cons_zero, List.set_cons_succ]
              refine wpAnyH_take (i := 3) (v := ?_) rfl (by kernel_rfl) (by kernel_rfl) (by kernel_rfl) (fun _ _ _ h => h) (Or.inl ⟨by kernel_rfl, ?_⟩) (by assumption) ?_
              rotate_left
              · intro w' hSw
                have e2 := D2 _ hSw
                have ev0 := DV0 _ hSw
                have el0 := DL0 _ hSw
                have ev1 := DV1 _ hSw
                have el1 := DL1 _ hSw
                have ev2 := DV2 _ hSw
                have el2 := DL2 _ hSw
                have ev3 := DV3 _ hSw
                have el3 := DL3 _ hSw
                have ev4 := DV4 _ hSw
                have el4 := DL4 _ hSw
                have ev5 := DV5 _ hSw
                have el5 := DL5 _ hSw
                go_simp
                first | (with_reducible rfl) | done | assumption | skip
              simp only [Act.put, List.getElem_toArray, List.getElem_cons_succ, List.getElem_cons_zero, List.setIfInBounds_toArray, List.set_cons_zero, List.set_cons_succ]
              refine wpAnyH_take (i := 4) (v := ?_) rfl (by kernel_rfl) (by kernel_rfl) (by kernel_rfl) (fun _ _ _ h => h) (Or.inl ⟨by kernel_rfl, ?_⟩) (by assumption) ?_
              rotate_left
              · intro w' hSw
                have e2 := D2 _ hSw
                have ev0 := DV0 _ hSw
                have el0 := DL0 _ hSw
                have ev1 := DV1 _ hSw
                have el1 := DL1 _ hSw
                have ev2 := DV2 _ hSw
                have el2 := DL2 _ hSw
                have ev3 := DV3 _ hSw
                have el3 := DL3 _ hSw
                have ev4 := DV4 _ hSw
                have el4 := DL4 _ hSw
                have ev5 := DV5 _ hSw
                have el5 := DL5 _ hSw
                go_simp
                first | (with_reducible rfl) | done | assumption | skip
              simp only [Act.put, List.getElem_toArray, List.getElem_cons_succ, List.getElem_cons_zero, List.setIfInBounds_toArray, List.set_cons_zero, List.set_cons_succ]
              refine wpAnyH_take (i := 5) (v := ?_) rfl (by kernel_rfl) (by kernel_rfl) (by kernel_rfl) (fun _ _ _ h => h) (Or.inl ⟨by kernel_rfl, ?_⟩) (by assumption) ?_
              rotate_left
              · intro w' hSw
                have e2 := D2 _ hSw
                have ev0 := DV0 _ hSw
                have el0 := DL0 _ hSw
                have ev1 := DV1 _ hSw
                have el1 := DL1 _ hSw
                have ev2 := DV2 _ hSw
                have el2 := DL2 _ hSw
                have ev3 := DV3 _ hSw
                have el3 := DL3 _ hSw
                have ev4 := DV4 _ hSw
                have el4 := DL4 _ hSw
                have ev5 := DV5 _ hSw
                have el5 := DL5 _ hSw
                go_simp
                first | (with_reducible rfl) | done | assumption | skip
              simp only [Act.put, List.getElem_toArray, List.getElem_cons_succ, List.getElem_cons_zero, List.setIfInBounds_toArray, List.set_cons_zero, List.set_cons_succ]
              refine wpAnyH_take (i := 6) (v := ?_) rfl (by kernel_rfl) (by kernel_rfl) (by kernel_rfl) (fun _ _ _ h => h) (Or.inl ⟨by kernel_rfl, ?_⟩) (by assumption) ?_
              rotate_left
              · intro w' hSw
                have e2 := D2 _ hSw
                have ev0 := DV0 _ hSw
                have el0 := DL0 _ hSw
                have ev1 := DV1 _ hSw
                have el1 := DL1 _ hSw
                have ev2 := DV2 _ hSw
                have el2 := DL2 _ hSw
                have ev3 := DV3 _ hSw
                have el3 := DL3 _ hSw
                have ev4 := DV4 _ hSw
                have el4 := DL4 _ hSw
                have ev5 := DV5 _ hSw
                have el5 := DL5 _ hSw
                go_simp
                first | (with_reducible rfl) | done | assumption | skip
              simp only [Act.put, List.getElem_toArray, List.getElem_cons_succ, List.getElem_cons_zero, List.setIfInBounds_toArray, List.set_cons_zero, List.set_cons_succ]
              refine wpAnyH_take (i := 7) (v := ?_) rfl (by kernel_rfl) (by kernel_rfl) (by kernel_rfl) (fun _ _ _ h => h) (Or.inl ⟨by kernel_rfl, ?_⟩) (by assumption) ?_
              rotate_left
              · intro w' hSw
                have e2 := D2 _ hSw
                have ev0 := DV0 _ hSw
                have el0 := DL0 _ hSw
                have ev1 := DV1 _ hSw
                have el1 := DL1 _ hSw
                have ev2 := DV2 _ hSw
                have el2 := DL2 _ hSw
                have ev3 := DV3 _ hSw
                have el3 := DL3 _ hSw
                have ev4 := DV4 _ hSw
                have el4 := DL4 _ hSw
                have ev5 := DV5 _ hSw
                have el5 := DL5 _ hSw
                go_simp
                first | (with_reducible rfl) | done | assumption | skip
              simp only [Act.put, List.getElem_toArray, List.getElem_cons_succ, List.getElem_cons_zero, List.setIfInBounds_toArray, List.set_cons_zero, List.set_cons_succ]
              refine wpAnyH_take (i := 8) (v := ?_) rfl (by kernel_rfl) (by kernel_rfl) (by kernel_rfl) (fun _ _ _ h => h) (Or.inl ⟨by kernel_rfl, ?_⟩) (by assumption) ?_
              rotate_left
              · intro w' hSw
                have e2 := D2 _ hSw
                have ev0 := DV0 _ hSw
                have el0 := DL0 _ hSw
                have ev1 := DV1 _ hSw
                have el1 := DL1 _ hSw
                have ev2 := DV2 _ hSw
                have el2 := DL2 _ hSw
                have ev3 := DV3 _ hSw
                have el3 := DL3 _ hSw
                have ev4 := DV4 _ hSw
                have el4 := DL4 _ hSw
                have ev5 := DV5 _ hSw
                have el5 := DL5 _ hSw
                go_simp
                first | (with_reducible rfl) | done | assumption | skip
              simp only [Act.put, List.getElem_toArray, List.getElem_cons_succ, List.getElem_cons_zero, List.setIfInBounds_toArray, List.set_cons_zero, List.set_cons_succ]
              have y0 := (kG6.cell 0).trans rfl
              have y1 := (kG6.cell 1).trans rfl
              have y2 := (kG6.cell 2).trans rfl
              have y3 := (kG6.cell 3).trans rfl
              have y4 := (kG6.cell 4).trans rfl
              have y5 := (kG6.cell 5).trans rfl
              have y6 := (kG6.cell 6).trans rfl
              have y7 := (kG6.cell 7).trans rfl
              have y8 := (kG6.cell 8).trans rfl
              have y9 := (kG6.cell 9).trans rfl
              have y10 := (kG6.cell 10).trans rfl
              have y11 := (kG6.cell 11).trans rfl
              have q0 := kG6.frozen 0
              have q1 := kG6.frozen 1
              have q2 := kG6.frozen 2
              have q3 := kG6.frozen 3
              have q4 := kG6.frozen 4
              have q5 := kG6.frozen 5
              have q6 := kG6.frozen 6
              have q7 := kG6.frozen 7
              have q8 := kG6.frozen 8
              have q9 := kG6.frozen 9
              have q10 := kG6.frozen 10
              have q11 := kG6.frozen 11
              have zg9 := kG6.lt
              refine wpAnyH_ready (rs := [9]) (by kernel_rfl) (by simp) ?_
              refine AllReadyH.cons rfl (fun K hK => ?_) AllReadyH.nil
              go_simp
              have of1 := off12 w6 (w.heap.size + 1) (.int .i64 yh) (.int .i64 yr) (.int .i64 ys) (.bool yhas) (.int .u64 ybl) (.int .i64 yf) (.int .i64 h) (.int .i64 yr) (.int .i64 ys) (.bool has) (.int .u64 bl) (.int .i64 yf)
              refine hK.out _ _ (by with_reducible exact of1) (fun _ => ?_)
              clear hK K
              try simp only [Act.put, List.getElem_toArray, List.getElem_cons_succ, List.getElem_cons_zero, List.setIfInBounds_toArray, List.set_cons_zero, List.set_cons_succ]
              refine wpAnyH_take (i := 10) (v := ?_) rfl (by kernel_rfl) (by kernel_rfl) (by kernel_rfl) (fun _ _ _ h => h) (Or.inl ⟨by kernel_rfl, ?_⟩) (by assumption) ?_
              rotate_left
              · intro w' hSw
                skip
                go_simp
                first | (with_reducible rfl) | done | assumption | skip
              simp only [Act.put, List.getElem_toArray, List.getElem_cons_succ, List.getElem_cons_zero, List.setIfInBounds_toArray, List.set_cons_zero, List.set_cons_succ]
              refine wpAnyH_done (by kernel_rfl) ?_ _
              have kF := blk12 kG6 (.int .i64 yh) (.int .i64 yr) (.int .i64 ys) (.bool yhas) (.int .u64 ybl) (.int .i64 yf) (.int .i64 h) (.int .i64 yr) (.int .i64 ys) (.bool has) (.int .u64 bl) (.int .i64 yf)
              have BF := bel12 B6 (show w.heap.size ≤ w.heap.size + 1 by omega) (.int .i64 yh) (.int .i64 yr) (.int .i64 ys) (.bool yhas) (.int .u64 ybl) (.int .i64 yf) (.int .i64 h) (.int .i64 yr) (.int .i64 ys) (.bool has) (.int .u64 bl) (.int .i64 yf)
              clear y0 y1 y2 y3 y4 y5 y6 y7 y8 y9 y10 y11 q0 q1 q2 q3 q4 q5 q6 q7 q8 q9 q10 q11 of1 of0 D2 DV0 DV1 DV2 DV3 DV4 DV5 DL0 DL1 DL2 DL3 DL4 DL5
              generalize ((((((((((((w6.setCell ⟨w.heap.size + 1, 0, none⟩ (.int .i64 yh)).setCell ⟨w.heap.size + 1, 1, none⟩ (.int .i64 yr)).setCell ⟨w.heap.size + 1, 2, none⟩ (.int .i64 ys)).setCell ⟨w.heap.size + 1, 3, none⟩ (.bool yhas)).setCell ⟨w.heap.size + 1, 4, none⟩ (.int .u64 ybl)).setCell ⟨w.heap.size + 1, 5, none⟩ (.int .i64 yf)).setCell ⟨w.heap.size + 1, 6, none⟩ (.int .i64 h)).setCell ⟨w.heap.size + 1, 7, none⟩ (.int .i64 yr)).setCell ⟨w.heap.size + 1, 8, none⟩ (.int .i64 ys)).setCell ⟨w.heap.size + 1, 9, none⟩ (.bool has)).setCell ⟨w.heap.size + 1, 10, none⟩ (.int .u64 bl)).setCell ⟨w.heap.size + 1, 11, none⟩ (.int .i64 yf)).drew = w7 at *
              have y0 := (kF.cell 0).trans rfl
              have y1 := (kF.cell 1).trans rfl
              have y2 := (kF.cell 2).trans rfl
              have y3 := (kF.cell 3).trans rfl
              have y4 := (kF.cell 4).trans rfl
              have y5 := (kF.cell 5).trans rfl
              have y6 := (kF.cell 6).trans rfl
              have y7 := (kF.cell 7).trans rfl
              have y8 := (kF.cell 8).trans rfl
              have y9 := (kF.cell 9).trans rfl
              have y10 := (kF.cell 10).trans rfl
              have y11 := (kF.cell 11).trans rfl
              go_wp2
              refine bodyPost_ret (v := .tuple #[.agg #[.int .i64 yh, .int .i64 yr, .int .i64 ys, .bool yhas, .int .u64 ybl, .int .i64 yf, .int .i64 h, .int .i64 yr, .int .i64 ys, .bool has, .int .u64 bl, .int .i64 yf], .int .i64 23]) (by simp [results, Try.results7, go_sem, y0, y1, y2, y3, y4, y5, y6, y7, y8, y9, y10, y11]) rfl ?_
              exact .inr ⟨rfl, i, hi, HT.out, HN.out, .inr (.inl ⟨_, HGT.out, ⟨rfl, rfl, rfl⟩, HNE.out, rfl, BF⟩)⟩
          · have hcases : (yr == r) = false ∨ ((yr == r) = true ∧ (ys == s) = false) ∨ ((yr == r) = true ∧ (ys == s) = true ∧ (yf == f) = false) := by
              by_cases q1 : yr = r
              · by_cases q2 : ys = s
                · exact .inr (.inr ⟨by simp [q1], by simp [q2], by simp; exact fun e => hsp ⟨q1, q2, e⟩⟩)
                · exact .inr (.inl ⟨by simp [q1], by simp [q2]⟩)
              · exact .inl (by simp [q1])
            have HNP : Hid (∀ y, L[i]? = some y → ¬ samePl y ⟨h, r, s, has, bl, f⟩) := fun y hy => by rw [HGT.out] at hy; cases hy; exact fun q => hsp ⟨q.1, q.2.1, q.2.2⟩
            clear hsp HGT
            rcases hcases with n1 | ⟨n1, n2⟩ | ⟨n1, n2, n3⟩
            all_goals
              go_upto_region 14 with fail
              go_quiet (fail)
              have bq : Below wx.heap.size wx (wx.drewN nq) := below_drewN (Below.refl _ _) nq
              have kR5 := kR4.below bq kR4.lt
              have kV5 := kV4.below bq kV4.lt
              have kG5 := kG4.below bq kG4.lt
              have B5 := B4.trans (bq.mono B4.size)
              have HO5 := owns_keep HO4 bq
              have hVT := H4.votes.below bq
              have hST := H4.seats.below bq
              
              have z1' := bq.size
              generalize wx.drewN nq = w5 at *
              clear kR4 kV4 kG4 H4 HO4 g2 zg zkv u0 u1 u2 u3 u4 u5 c0 c1 c2 c3 c4 c5
              rcases HO5.2 with ⟨e0, h0⟩ | ⟨g, cap, cur, e0, _, hgh, hnc, hcm, _, _⟩
              · cases e0
              · injection e0 with q1 q2 q3
                subst q3
                have hic' : i < lc := by omega
                clear q1 q2
                have hg5 := kG5.lt
                have hv5 := kV5.lt
                have hr5 := kR5.lt
                have v0 := (kV5.cell 0).trans rfl
                have v1 := (kV5.cell 1).trans rfl
                have v2 := (kV5.cell 2).trans rfl
                have v3 := (kV5.cell 3).trans rfl
                have v4 := (kV5.cell 4).trans rfl
                have v5 := (kV5.cell 5).trans rfl
                have g2 := (kR5.cell 2).trans rfl
                have b0 : Below w5.heap.size w5 (w5.alloc (.cells #[] 34)) := (Below.refl _ _).alloc (Nat.le_refl _) _
                have own0 : (w5.alloc (.cells #[] 34)).ownsRow w5.heap.size 34 6 (.slice (some ⟨w5.heap.size, 0, none⟩) 0 0) 0 (flatV []) := World.ownsRow_made w5 #[] 0 (Nat.le_refl _) (Nat.zero_le _) rfl
                obtain ⟨a1, m1, w6, hr1, own1, hgr1⟩ := app_votesN (w5.alloc (.cells #[] 34)) w5.heap.size _ [] 0 own0 rfl (some ⟨b1, o1, none⟩) lc (L.take i) (votes_take (hVT.below b0) i) i i (by simp; omega) (by omega) (by omega) (by omega) b0.size
                have b1' : Below w5.heap.size w5 w6 := b0.grown hgr1 b0.size (fun k e => (own0.lt k e).1)
                rw [List.nil_append] at own1
                have kI := Blk.new w6 #[.int .i64 h, .int .i64 r, .int .i64 s, .bool has, .int .u64 bl, .int .i64 f] 34
                have b2 : Below w5.heap.size w5 (w6.alloc (.cells #[.int .i64 h, .int .i64 r, .int .i64 s, .bool has, .int .u64 bl, .int .i64 f] 34)) := b1'.alloc b1'.size _
                obtain ⟨a2, m2, w7, hr2, own2, hgr2⟩ := app_votesN (w6.alloc (.cells #[.int .i64 h, .int .i64 r, .int .i64 s, .bool has, .int .u64 bl, .int .i64 f] 34)) w5.heap.size _ (L.take i) i (own1.alloc _) (by simp; omega) (some ⟨w6.heap.size, 0, none⟩) 1 [⟨h, r, s, has, bl, f⟩] (VotesAt.blk (x := ⟨h, r, s, has, bl, f⟩) kI) 1 (i + 1) rfl rfl (by omega) (by omega) b2.size
                have b3 : Below w5.heap.size w5 w7 := b2.grown hgr2 b2.size (fun k e => (own1.lt k e).1)
                obtain ⟨a3, m3, w8, hr3, own3, hgr3⟩ := app_votesN w7 w5.heap.size _ (L.take i ++ [⟨h, r, s, has, bl, f⟩]) (i + 1) own2 (by simp; omega) (some ⟨b1, o1 + i * 6, none⟩) (lc - i) (L.drop i) (votes_drop (hVT.below b3) i) (L.length - i) (L.length + 1) (by simp) (by omega) (by omega) (by omega) b3.size
                have b4 : Below w5.heap.size w5 w8 := b3.grown hgr3 b3.size (fun k e => (own2.lt k e).1)
                have kR8 := kR5.below b4 kR5.lt
                have x8 := (kR8.cell 2).trans rfl
                have f8 := kR8.frozen 2
                have z8 := kR8.lt
                have kV6 := kV5.below b1' kV5.lt
                have vv0 := (kV6.cell 0).trans rfl
                have vv1 := (kV6.cell 1).trans rfl
                have vv2 := (kV6.cell 2).trans rfl
                have vv3 := (kV6.cell 3).trans rfl
                have vv4 := (kV6.cell 4).trans rfl
                have vv5 := (kV6.cell 5).trans rfl
                have zv6 := kV6.lt
                have g6 := ((kR5.below b3 kR5.lt).cell 2).trans rfl
                have zr7 := (kR5.below b3 kR5.lt).lt
                have k9 := kR8.set 2 (.slice a3 (L.length + 1) m3)
                have bc : But (fun k => k = rb) w8 (w8.setCell ⟨rb, 2, none⟩ (.slice a3 (L.length + 1) m3)) := But.atq w8 rb 2 _
                have hLen : (L.take i ++ (⟨h, r, s, has, bl, f⟩ : Vt) :: L.drop i).length = (L.length + 1) := by simp; omega
                have hFl : L.take i ++ (⟨h, r, s, has, bl, f⟩ : Vt) :: L.drop i = (L.take i ++ [⟨h, r, s, has, bl, f⟩]) ++ L.drop i := by simp
                have own9 : (w8.setCell ⟨rb, 2, none⟩ (.slice a3 (L.length + 1) m3)).ownsRow w5.heap.size 34 6 (.slice a3 (L.length + 1) m3) (L.length + 1) (flatV (L.take i ++ (⟨h, r, s, has, bl, f⟩ : Vt) :: L.drop i)) := by rw [hFl]; exact bc.owns own3 (fun g e q => by have := (own3.lt g e).1; omega)
                have s9 := bc.seats (hST.below b4) (fun a ha => (hsa a ha).1)
                obtain ⟨_, _, hj1, hj2⟩ := VotesAt.of_owns (m := L.take i ++ (⟨h, r, s, has, bl, f⟩ : Vt) :: L.drop i) (by rw [hLen]; exact own9)
                rw [hLen] at hj1
                cases hj1
                have H9 : RcAt (w8.setCell ⟨rb, 2, none⟩ (.slice a3 (L.length + 1) m3)) rb sa sc x h a3 m3 (L.take i ++ (⟨h, r, s, has, bl, f⟩ : Vt) :: L.drop i) := ⟨by rw [hLen]; exact k9, s9, hj2⟩
                have own10 : (w8.setCell ⟨rb, 2, none⟩ (.slice a3 (L.length + 1) m3)).ownsRow w.heap.size 34 6 (.slice a3 (L.take i ++ (⟨h, r, s, has, bl, f⟩ : Vt) :: L.drop i).length m3) (L.take i ++ (⟨h, r, s, has, bl, f⟩ : Vt) :: L.drop i).length (flatV (L.take i ++ (⟨h, r, s, has, bl, f⟩ : Vt) :: L.drop i)) := by rw [hLen]; exact owns_base own9 B5.size
                have B9 : But (fun k => k = rb) w (w8.setCell ⟨rb, 2, none⟩ (.slice a3 (L.length + 1) m3)) := (But.of_below (B5.trans (b4.mono B5.size))).trans bc
                have kG9 := bc.blk (kG5.below b4 kG5.lt) (by omega)
                have hz9 := kG9.lt
                have hfr9 := owns_fresh own9
                have HX := show Hid (RcAt _ _ _ _ _ _ _ _ _ ∧ World.ownsRow _ _ _ _ _ _ _ ∧ But _ _ _) from ⟨H9, own10, B9⟩
                clear H9 own10 B9 own9 s9 hj2 bc k9 hLen hFl
                go_upto_region 19 with (at_builtin; refine wpList_append_run rfl _ _ 23 rfl _ _ _ w6 rfl rfl hr1 ?_)
                go_upto_region 20 with (at_builtin; refine wpList_append_run rfl _ _ 23 rfl _ _ _ w7 rfl rfl hr2 ?_)
                go_upto_region 21 with (at_builtin; refine wpList_append_run rfl _ _ 23 rfl _ _ _ w8 rfl rfl hr3 ?_)
                clear x8 f8 z8 kR8 b4 own3 hgr3
                generalize (w8.setCell ⟨rb, 2, none⟩ (.slice a3 (L.length + 1) m3)) = w9 at *
                have y0 := (kG9.cell 0).trans rfl
                have y1 := (kG9.cell 1).trans rfl
                have y2 := (kG9.cell 2).trans rfl
                have y3 := (kG9.cell 3).trans rfl
                have y4 := (kG9.cell 4).trans rfl
                have y5 := (kG9.cell 5).trans rfl
                have y6 := (kG9.cell 6).trans rfl
                have y7 := (kG9.cell 7).trans rfl
                have y8 := (kG9.cell 8).trans rfl
                have y9 := (kG9.cell 9).trans rfl
                have y10 := (kG9.cell 10).trans rfl
                have y11 := (kG9.cell 11).trans rfl
                have q0 := kG9.frozen 0
                have q1 := kG9.frozen 1
                have q2 := kG9.frozen 2
                have q3 := kG9.frozen 3
                have q4 := kG9.frozen 4
                have q5 := kG9.frozen 5
                have q6 := kG9.frozen 6
                have q7 := kG9.frozen 7
                have q8 := kG9.frozen 8
                have q9 := kG9.frozen 9
                have q10 := kG9.frozen 10
                have q11 := kG9.frozen 11
                go_wp2
                refine bodyPost_ret (v := .tuple #[.agg #[.int .i64 0, .int .i64 0, .int .i64 0, .bool false, .int .u64 0, .int .i64 0, .int .i64 0, .int .i64 0, .int .i64 0, .bool false, .int .u64 0, .int .i64 0], .int .i64 0]) (by simp [results, Try.results7, go_sem, y0, y1, y2, y3, y4, y5, y6, y7, y8, y9, y10, y11]) rfl ?_
                have bF : But (fun k => k = w.heap.size + 1) w9 _ := but12c w9 (w.heap.size + 1)
                obtain ⟨H9, own10, B9⟩ := HX.out
                have hob : ∀ a, a3 = some a → a.block ≠ w.heap.size + 1 := fun a ha => by have := hfr9 a ha; omega
                exact .inr ⟨rfl, i, hi, HT.out, HN.out, .inr (.inr ⟨HNP.out, rfl, a3, m3, RcAt.but H9 bF (by omega) (fun a ha => by have := (hsa a ha).2; omega) hob, bF.owns own10 (fun g e q => by cases a3 with | none => cases e | some a => exact hob a rfl (by rw [← q]; exact Option.some.inj e)), But.trans_neww B9 bF (fun k hk e => by omega)⟩)⟩
        · have hge : ¬ (i : Int) < (L.length : Int) := by omega
          have hie : i = L.length := by omega
          go_upto_region 14 with fail
          go_quiet (fail)
          have bq : Below wx.heap.size wx (wx.drewN nq) := below_drewN (Below.refl _ _) nq
          have kR5 := kR4.below bq kR4.lt
          have kV5 := kV4.below bq kV4.lt
          have kG5 := kG4.below bq kG4.lt
          have B5 := B4.trans (bq.mono B4.size)
          have HO5 := owns_keep HO4 bq
          have hVT := H4.votes.below bq
          have hST := H4.seats.below bq
          
          have z1' := bq.size
          generalize wx.drewN nq = w5 at *
          clear kR4 kV4 kG4 H4 HO4 g2 zg zkv u0 u1 u2 u3 u4 u5
          have HNP : Hid (∀ y, L[i]? = some y → ¬ samePl y ⟨h, r, s, has, bl, f⟩) := fun y hy => by rw [List.getElem?_eq_none (by omega)] at hy; cases hy
          rcases HO5.2 with ⟨e0, h0⟩ | ⟨g, cap, cur, e0, _, hgh, hnc, hcm, _, _⟩
          · injection e0 with q1 q2 q3
            subst q1
            subst q3
            have hLn : L = [] := List.eq_nil_of_length_eq_zero h0
            have hi0 : i = 0 := by omega
            subst hi0
            subst hLn
            clear hie q2 h0
            have hg5 := kG5.lt
            have hv5 := kV5.lt
            have hr5 := kR5.lt
            have v0 := (kV5.cell 0).trans rfl
            have v1 := (kV5.cell 1).trans rfl
            have v2 := (kV5.cell 2).trans rfl
            have v3 := (kV5.cell 3).trans rfl
            have v4 := (kV5.cell 4).trans rfl
            have v5 := (kV5.cell 5).trans rfl
            have g2 := (kR5.cell 2).trans rfl
            have b0 : Below w5.heap.size w5 (w5.alloc (.cells #[] 34)) := (Below.refl _ _).alloc (Nat.le_refl _) _
            have own0 : (w5.alloc (.cells #[] 34)).ownsRow w5.heap.size 34 6 (.slice (some ⟨w5.heap.size, 0, none⟩) 0 0) 0 (flatV []) := World.ownsRow_made w5 #[] 0 (Nat.le_refl _) (Nat.zero_le _) rfl
            obtain ⟨a1, m1, w6, hr1, own1, hgr1⟩ := app_votesN (w5.alloc (.cells #[] 34)) w5.heap.size _ [] 0 own0 rfl none 0 (([] : List Vt).take 0) (.inl (by simp)) 0 0 (by simp) (by omega) (by omega) (by omega) b0.size
            have b1' : Below w5.heap.size w5 w6 := b0.grown hgr1 b0.size (fun k e => (own0.lt k e).1)
            rw [List.nil_append] at own1
            have kI := Blk.new w6 #[.int .i64 h, .int .i64 r, .int .i64 s, .bool has, .int .u64 bl, .int .i64 f] 34
            have b2 : Below w5.heap.size w5 (w6.alloc (.cells #[.int .i64 h, .int .i64 r, .int .i64 s, .bool has, .int .u64 bl, .int .i64 f] 34)) := b1'.alloc b1'.size _
            obtain ⟨a2, m2, w7, hr2, own2, hgr2⟩ := app_votesN (w6.alloc (.cells #[.int .i64 h, .int .i64 r, .int .i64 s, .bool has, .int .u64 bl, .int .i64 f] 34)) w5.heap.size _ (([] : List Vt).take 0) 0 (own1.alloc _) (by simp) (some ⟨w6.heap.size, 0, none⟩) 1 [⟨h, r, s, has, bl, f⟩] (VotesAt.blk (x := ⟨h, r, s, has, bl, f⟩) kI) 1 (0 + 1) rfl rfl (by omega) (by omega) b2.size
            have b3 : Below w5.heap.size w5 w7 := b2.grown hgr2 b2.size (fun k e => (own1.lt k e).1)
            obtain ⟨a3, m3, w8, hr3, own3, hgr3⟩ := app_votesN w7 w5.heap.size _ (([] : List Vt).take 0 ++ [⟨h, r, s, has, bl, f⟩]) (0 + 1) own2 (by simp) none 0 (([] : List Vt).drop 0) (.inl (by simp)) 0 1 (by simp) (by omega) (by omega) (by omega) b3.size
            have b4 : Below w5.heap.size w5 w8 := b3.grown hgr3 b3.size (fun k e => (own2.lt k e).1)
            have kR8 := kR5.below b4 kR5.lt
            have x8 := (kR8.cell 2).trans rfl
            have f8 := kR8.frozen 2
            have z8 := kR8.lt
            have kV6 := kV5.below b1' kV5.lt
            have vv0 := (kV6.cell 0).trans rfl
            have vv1 := (kV6.cell 1).trans rfl
            have vv2 := (kV6.cell 2).trans rfl
            have vv3 := (kV6.cell 3).trans rfl
            have vv4 := (kV6.cell 4).trans rfl
            have vv5 := (kV6.cell 5).trans rfl
            have zv6 := kV6.lt
            have g6 := ((kR5.below b3 kR5.lt).cell 2).trans rfl
            have zr7 := (kR5.below b3 kR5.lt).lt
            have k9 := kR8.set 2 (.slice a3 1 m3)
            have bc : But (fun k => k = rb) w8 (w8.setCell ⟨rb, 2, none⟩ (.slice a3 1 m3)) := But.atq w8 rb 2 _
            have hLen : (([] : List Vt).take 0 ++ (⟨h, r, s, has, bl, f⟩ : Vt) :: ([] : List Vt).drop 0).length = 1 := by simp
            have hFl : ([] : List Vt).take 0 ++ (⟨h, r, s, has, bl, f⟩ : Vt) :: ([] : List Vt).drop 0 = (([] : List Vt).take 0 ++ [⟨h, r, s, has, bl, f⟩]) ++ ([] : List Vt).drop 0 := by simp
            have own9 : (w8.setCell ⟨rb, 2, none⟩ (.slice a3 1 m3)).ownsRow w5.heap.size 34 6 (.slice a3 1 m3) 1 (flatV (([] : List Vt).take 0 ++ (⟨h, r, s, has, bl, f⟩ : Vt) :: ([] : List Vt).drop 0)) := by rw [hFl]; exact bc.owns own3 (fun g e q => by have := (own3.lt g e).1; omega)
            have s9 := bc.seats (hST.below b4) (fun a ha => (hsa a ha).1)
            obtain ⟨_, _, hj1, hj2⟩ := VotesAt.of_owns (m := ([] : List Vt).take 0 ++ (⟨h, r, s, has, bl, f⟩ : Vt) :: ([] : List Vt).drop 0) (by rw [hLen]; exact own9)
            rw [hLen] at hj1
            cases hj1
            have H9 : RcAt (w8.setCell ⟨rb, 2, none⟩ (.slice a3 1 m3)) rb sa sc x h a3 m3 (([] : List Vt).take 0 ++ (⟨h, r, s, has, bl, f⟩ : Vt) :: ([] : List Vt).drop 0) := ⟨by rw [hLen]; exact k9, s9, hj2⟩
            have own10 : (w8.setCell ⟨rb, 2, none⟩ (.slice a3 1 m3)).ownsRow w.heap.size 34 6 (.slice a3 (([] : List Vt).take 0 ++ (⟨h, r, s, has, bl, f⟩ : Vt) :: ([] : List Vt).drop 0).length m3) (([] : List Vt).take 0 ++ (⟨h, r, s, has, bl, f⟩ : Vt) :: ([] : List Vt).drop 0).length (flatV (([] : List Vt).take 0 ++ (⟨h, r, s, has, bl, f⟩ : Vt) :: ([] : List Vt).drop 0)) := by rw [hLen]; exact owns_base own9 B5.size
            have B9 : But (fun k => k = rb) w (w8.setCell ⟨rb, 2, none⟩ (.slice a3 1 m3)) := (But.of_below (B5.trans (b4.mono B5.size))).trans bc
            have kG9 := bc.blk (kG5.below b4 kG5.lt) (by omega)
            have hz9 := kG9.lt
            have hfr9 := owns_fresh own9
            have HX := show Hid (RcAt _ _ _ _ _ _ _ _ _ ∧ World.ownsRow _ _ _ _ _ _ _ ∧ But _ _ _) from ⟨H9, own10, B9⟩
            clear H9 own10 B9 own9 s9 hj2 bc k9 hLen hFl
            go_upto_region 19 with (at_builtin; refine wpList_append_run rfl _ _ 23 rfl _ _ _ w6 rfl rfl hr1 ?_)
            go_upto_region 20 with (at_builtin; refine wpList_append_run rfl _ _ 23 rfl _ _ _ w7 rfl rfl hr2 ?_)
            go_upto_region 21 with (at_builtin; refine wpList_append_run rfl _ _ 23 rfl _ _ _ w8 rfl rfl hr3 ?_)
            clear x8 f8 z8 kR8 b4 own3 hgr3
            generalize (w8.setCell ⟨rb, 2, none⟩ (.slice a3 1 m3)) = w9 at *
            have y0 := (kG9.cell 0).trans rfl
            have y1 := (kG9.cell 1).trans rfl
            have y2 := (kG9.cell 2).trans rfl
            have y3 := (kG9.cell 3).trans rfl
            have y4 := (kG9.cell 4).trans rfl
            have y5 := (kG9.cell 5).trans rfl
            have y6 := (kG9.cell 6).trans rfl
            have y7 := (kG9.cell 7).trans rfl
            have y8 := (kG9.cell 8).trans rfl
            have y9 := (kG9.cell 9).trans rfl
            have y10 := (kG9.cell 10).trans rfl
            have y11 := (kG9.cell 11).trans rfl
            have q0 := kG9.frozen 0
            have q1 := kG9.frozen 1
            have q2 := kG9.frozen 2
            have q3 := kG9.frozen 3
            have q4 := kG9.frozen 4
            have q5 := kG9.frozen 5
            have q6 := kG9.frozen 6
            have q7 := kG9.frozen 7
            have q8 := kG9.frozen 8
            have q9 := kG9.frozen 9
            have q10 := kG9.frozen 10
            have q11 := kG9.frozen 11
            go_wp2
            refine bodyPost_ret (v := .tuple #[.agg #[.int .i64 0, .int .i64 0, .int .i64 0, .bool false, .int .u64 0, .int .i64 0, .int .i64 0, .int .i64 0, .int .i64 0, .bool false, .int .u64 0, .int .i64 0], .int .i64 0]) (by simp [results, Try.results7, go_sem, y0, y1, y2, y3, y4, y5, y6, y7, y8, y9, y10, y11]) rfl ?_
            have bF : But (fun k => k = w.heap.size + 1) w9 _ := but12c w9 (w.heap.size + 1)
            obtain ⟨H9, own10, B9⟩ := HX.out
            have hob : ∀ a, a3 = some a → a.block ≠ w.heap.size + 1 := fun a ha => by have := hfr9 a ha; omega
            exact .inr ⟨rfl, 0, hi, HT.out, HN.out, .inr (.inr ⟨HNP.out, rfl, a3, m3, RcAt.but H9 bF (by omega) (fun a ha => by have := (hsa a ha).2; omega) hob, bF.owns own10 (fun g e q => by cases a3 with | none => cases e | some a => exact hob a rfl (by rw [← q]; exact Option.some.inj e)), But.trans_neww B9 bF (fun k hk e => by omega)⟩)⟩
          · injection e0 with q1 q2 q3
            subst q3
            obtain ⟨b1, o1, rfl⟩ : ∃ b1 o1, la = some ⟨b1, o1, none⟩ := ⟨g, 0, q1⟩
            by_cases hic : i = lc
            · clear q1 q2
              subst hic
              have hg5 := kG5.lt
              have hv5 := kV5.lt
              have hr5 := kR5.lt
              have v0 := (kV5.cell 0).trans rfl
              have v1 := (kV5.cell 1).trans rfl
              have v2 := (kV5.cell 2).trans rfl
              have v3 := (kV5.cell 3).trans rfl
              have v4 := (kV5.cell 4).trans rfl
              have v5 := (kV5.cell 5).trans rfl
              have g2 := (kR5.cell 2).trans rfl
              have b0 : Below w5.heap.size w5 (w5.alloc (.cells #[] 34)) := (Below.refl _ _).alloc (Nat.le_refl _) _
              have own0 : (w5.alloc (.cells #[] 34)).ownsRow w5.heap.size 34 6 (.slice (some ⟨w5.heap.size, 0, none⟩) 0 0) 0 (flatV []) := World.ownsRow_made w5 #[] 0 (Nat.le_refl _) (Nat.zero_le _) rfl
              obtain ⟨a1, m1, w6, hr1, own1, hgr1⟩ := app_votesN (w5.alloc (.cells #[] 34)) w5.heap.size _ [] 0 own0 rfl (some ⟨b1, o1, none⟩) i (L.take i) (votes_take (hVT.below b0) i) i i (by simp; omega) (by omega) (by omega) (by omega) b0.size
              have b1' : Below w5.heap.size w5 w6 := b0.grown hgr1 b0.size (fun k e => (own0.lt k e).1)
              rw [List.nil_append] at own1
              have kI := Blk.new w6 #[.int .i64 h, .int .i64 r, .int .i64 s, .bool has, .int .u64 bl, .int .i64 f] 34
              have b2 : Below w5.heap.size w5 (w6.alloc (.cells #[.int .i64 h, .int .i64 r, .int .i64 s, .bool has, .int .u64 bl, .int .i64 f] 34)) := b1'.alloc b1'.size _
              obtain ⟨a2, m2, w7, hr2, own2, hgr2⟩ := app_votesN (w6.alloc (.cells #[.int .i64 h, .int .i64 r, .int .i64 s, .bool has, .int .u64 bl, .int .i64 f] 34)) w5.heap.size _ (L.take i) i (own1.alloc _) (by simp; omega) (some ⟨w6.heap.size, 0, none⟩) 1 [⟨h, r, s, has, bl, f⟩] (VotesAt.blk (x := ⟨h, r, s, has, bl, f⟩) kI) 1 (i + 1) rfl rfl (by omega) (by omega) b2.size
              have b3 : Below w5.heap.size w5 w7 := b2.grown hgr2 b2.size (fun k e => (own1.lt k e).1)
              obtain ⟨a3, m3, w8, hr3, own3, hgr3⟩ := app_votesN w7 w5.heap.size _ (L.take i ++ [⟨h, r, s, has, bl, f⟩]) (i + 1) own2 (by simp; omega) (some ⟨b1, o1, none⟩) 0 (L.drop i) (.inl (by simp; omega)) 0 (L.length + 1) (by simp; omega) (by omega) (by omega) (by omega) b3.size
              have b4 : Below w5.heap.size w5 w8 := b3.grown hgr3 b3.size (fun k e => (own2.lt k e).1)
              have kR8 := kR5.below b4 kR5.lt
              have x8 := (kR8.cell 2).trans rfl
              have f8 := kR8.frozen 2
              have z8 := kR8.lt
              have kV6 := kV5.below b1' kV5.lt
              have vv0 := (kV6.cell 0).trans rfl
              have vv1 := (kV6.cell 1).trans rfl
              have vv2 := (kV6.cell 2).trans rfl
              have vv3 := (kV6.cell 3).trans rfl
              have vv4 := (kV6.cell 4).trans rfl
              have vv5 := (kV6.cell 5).trans rfl
              have zv6 := kV6.lt
              have g6 := ((kR5.below b3 kR5.lt).cell 2).trans rfl
              have zr7 := (kR5.below b3 kR5.lt).lt
              have k9 := kR8.set 2 (.slice a3 (L.length + 1) m3)
              have bc : But (fun k => k = rb) w8 (w8.setCell ⟨rb, 2, none⟩ (.slice a3 (L.length + 1) m3)) := But.atq w8 rb 2 _
              have hLen : (L.take i ++ (⟨h, r, s, has, bl, f⟩ : Vt) :: L.drop i).length = (L.length + 1) := by simp; omega
              have hFl : L.take i ++ (⟨h, r, s, has, bl, f⟩ : Vt) :: L.drop i = (L.take i ++ [⟨h, r, s, has, bl, f⟩]) ++ L.drop i := by simp
              have own9 : (w8.setCell ⟨rb, 2, none⟩ (.slice a3 (L.length + 1) m3)).ownsRow w5.heap.size 34 6 (.slice a3 (L.length + 1) m3) (L.length + 1) (flatV (L.take i ++ (⟨h, r, s, has, bl, f⟩ : Vt) :: L.drop i)) := by rw [hFl]; exact bc.owns own3 (fun g e q => by have := (own3.lt g e).1; omega)
              have s9 := bc.seats (hST.below b4) (fun a ha => (hsa a ha).1)
              obtain ⟨_, _, hj1, hj2⟩ := VotesAt.of_owns (m := L.take i ++ (⟨h, r, s, has, bl, f⟩ : Vt) :: L.drop i) (by rw [hLen]; exact own9)
              rw [hLen] at hj1
              cases hj1
              have H9 : RcAt (w8.setCell ⟨rb, 2, none⟩ (.slice a3 (L.length + 1) m3)) rb sa sc x h a3 m3 (L.take i ++ (⟨h, r, s, has, bl, f⟩ : Vt) :: L.drop i) := ⟨by rw [hLen]; exact k9, s9, hj2⟩
              have own10 : (w8.setCell ⟨rb, 2, none⟩ (.slice a3 (L.length + 1) m3)).ownsRow w.heap.size 34 6 (.slice a3 (L.take i ++ (⟨h, r, s, has, bl, f⟩ : Vt) :: L.drop i).length m3) (L.take i ++ (⟨h, r, s, has, bl, f⟩ : Vt) :: L.drop i).length (flatV (L.take i ++ (⟨h, r, s, has, bl, f⟩ : Vt) :: L.drop i)) := by rw [hLen]; exact owns_base own9 B5.size
              have B9 : But (fun k => k = rb) w (w8.setCell ⟨rb, 2, none⟩ (.slice a3 (L.length + 1) m3)) := (But.of_below (B5.trans (b4.mono B5.size))).trans bc
              have kG9 := bc.blk (kG5.below b4 kG5.lt) (by omega)
              have hz9 := kG9.lt
              have hfr9 := owns_fresh own9
              have HX := show Hid (RcAt _ _ _ _ _ _ _ _ _ ∧ World.ownsRow _ _ _ _ _ _ _ ∧ But _ _ _) from ⟨H9, own10, B9⟩
              clear H9 own10 B9 own9 s9 hj2 bc k9 hLen hFl
              clear hie
              go_upto_region 19 with (at_builtin; refine wpList_append_run rfl _ _ 23 rfl _ _ _ w6 rfl rfl hr1 ?_)
              go_upto_region 20 with (at_builtin; refine wpList_append_run rfl _ _ 23 rfl _ _ _ w7 rfl rfl hr2 ?_)
              go_upto_region 21 with (at_builtin; refine wpList_append_run rfl _ _ 23 rfl _ _ _ w8 rfl rfl hr3 ?_)
              clear x8 f8 z8 kR8 b4 own3 hgr3
              generalize (w8.setCell ⟨rb, 2, none⟩ (.slice a3 (L.length + 1) m3)) = w9 at *
              have y0 := (kG9.cell 0).trans rfl
              have y1 := (kG9.cell 1).trans rfl
              have y2 := (kG9.cell 2).trans rfl
              have y3 := (kG9.cell 3).trans rfl
              have y4 := (kG9.cell 4).trans rfl
              have y5 := (kG9.cell 5).trans rfl
              have y6 := (kG9.cell 6).trans rfl
              have y7 := (kG9.cell 7).trans rfl
              have y8 := (kG9.cell 8).trans rfl
              have y9 := (kG9.cell 9).trans rfl
              have y10 := (kG9.cell 10).trans rfl
              have y11 := (kG9.cell 11).trans rfl
              have q0 := kG9.frozen 0
              have q1 := kG9.frozen 1
              have q2 := kG9.frozen 2
              have q3 := kG9.frozen 3
              have q4 := kG9.frozen 4
              have q5 := kG9.frozen 5
              have q6 := kG9.frozen 6
              have q7 := kG9.frozen 7
              have q8 := kG9.frozen 8
              have q9 := kG9.frozen 9
              have q10 := kG9.frozen 10
              have q11 := kG9.frozen 11
              go_wp2
              refine bodyPost_ret (v := .tuple #[.agg #[.int .i64 0, .int .i64 0, .int .i64 0, .bool false, .int .u64 0, .int .i64 0, .int .i64 0, .int .i64 0, .int .i64 0, .bool false, .int .u64 0, .int .i64 0], .int .i64 0]) (by simp [results, Try.results7, go_sem, y0, y1, y2, y3, y4, y5, y6, y7, y8, y9, y10, y11]) rfl ?_
              have bF : But (fun k => k = w.heap.size + 1) w9 _ := but12c w9 (w.heap.size + 1)
              obtain ⟨H9, own10, B9⟩ := HX.out
              have hob : ∀ a, a3 = some a → a.block ≠ w.heap.size + 1 := fun a ha => by have := hfr9 a ha; omega
              exact .inr ⟨rfl, i, hi, HT.out, HN.out, .inr (.inr ⟨HNP.out, rfl, a3, m3, RcAt.but H9 bF (by omega) (fun a ha => by have := (hsa a ha).2; omega) hob, bF.owns own10 (fun g e q => by cases a3 with | none => cases e | some a => exact hob a rfl (by rw [← q]; exact Option.some.inj e)), But.trans_neww B9 bF (fun k hk e => by omega)⟩)⟩
            · have hic' : i < lc := by omega
              clear hie q1 q2
              have hg5 := kG5.lt
              have hv5 := kV5.lt
              have hr5 := kR5.lt
              have v0 := (kV5.cell 0).trans rfl
              have v1 := (kV5.cell 1).trans rfl
              have v2 := (kV5.cell 2).trans rfl
              have v3 := (kV5.cell 3).trans rfl
              have v4 := (kV5.cell 4).trans rfl
              have v5 := (kV5.cell 5).trans rfl
              have g2 := (kR5.cell 2).trans rfl
              have b0 : Below w5.heap.size w5 (w5.alloc (.cells #[] 34)) := (Below.refl _ _).alloc (Nat.le_refl _) _
              have own0 : (w5.alloc (.cells #[] 34)).ownsRow w5.heap.size 34 6 (.slice (some ⟨w5.heap.size, 0, none⟩) 0 0) 0 (flatV []) := World.ownsRow_made w5 #[] 0 (Nat.le_refl _) (Nat.zero_le _) rfl
              obtain ⟨a1, m1, w6, hr1, own1, hgr1⟩ := app_votesN (w5.alloc (.cells #[] 34)) w5.heap.size _ [] 0 own0 rfl (some ⟨b1, o1, none⟩) lc (L.take i) (votes_take (hVT.below b0) i) i i (by simp; omega) (by omega) (by omega) (by omega) b0.size
              have b1' : Below w5.heap.size w5 w6 := b0.grown hgr1 b0.size (fun k e => (own0.lt k e).1)
              rw [List.nil_append] at own1
              have kI := Blk.new w6 #[.int .i64 h, .int .i64 r, .int .i64 s, .bool has, .int .u64 bl, .int .i64 f] 34
              have b2 : Below w5.heap.size w5 (w6.alloc (.cells #[.int .i64 h, .int .i64 r, .int .i64 s, .bool has, .int .u64 bl, .int .i64 f] 34)) := b1'.alloc b1'.size _
              obtain ⟨a2, m2, w7, hr2, own2, hgr2⟩ := app_votesN (w6.alloc (.cells #[.int .i64 h, .int .i64 r, .int .i64 s, .bool has, .int .u64 bl, .int .i64 f] 34)) w5.heap.size _ (L.take i) i (own1.alloc _) (by simp; omega) (some ⟨w6.heap.size, 0, none⟩) 1 [⟨h, r, s, has, bl, f⟩] (VotesAt.blk (x := ⟨h, r, s, has, bl, f⟩) kI) 1 (i + 1) rfl rfl (by omega) (by omega) b2.size
              have b3 : Below w5.heap.size w5 w7 := b2.grown hgr2 b2.size (fun k e => (own1.lt k e).1)
              obtain ⟨a3, m3, w8, hr3, own3, hgr3⟩ := app_votesN w7 w5.heap.size _ (L.take i ++ [⟨h, r, s, has, bl, f⟩]) (i + 1) own2 (by simp; omega) (some ⟨b1, o1 + i * 6, none⟩) (lc - i) (L.drop i) (votes_drop (hVT.below b3) i) (L.length - i) (L.length + 1) (by simp) (by omega) (by omega) (by omega) b3.size
              have b4 : Below w5.heap.size w5 w8 := b3.grown hgr3 b3.size (fun k e => (own2.lt k e).1)
              have kR8 := kR5.below b4 kR5.lt
              have x8 := (kR8.cell 2).trans rfl
              have f8 := kR8.frozen 2
              have z8 := kR8.lt
              have kV6 := kV5.below b1' kV5.lt
              have vv0 := (kV6.cell 0).trans rfl
              have vv1 := (kV6.cell 1).trans rfl
              have vv2 := (kV6.cell 2).trans rfl
              have vv3 := (kV6.cell 3).trans rfl
              have vv4 := (kV6.cell 4).trans rfl
              have vv5 := (kV6.cell 5).trans rfl
              have zv6 := kV6.lt
              have g6 := ((kR5.below b3 kR5.lt).cell 2).trans rfl
              have zr7 := (kR5.below b3 kR5.lt).lt
              have k9 := kR8.set 2 (.slice a3 (L.length + 1) m3)
              have bc : But (fun k => k = rb) w8 (w8.setCell ⟨rb, 2, none⟩ (.slice a3 (L.length + 1) m3)) := But.atq w8 rb 2 _
              have hLen : (L.take i ++ (⟨h, r, s, has, bl, f⟩ : Vt) :: L.drop i).length = (L.length + 1) := by simp; omega
              have hFl : L.take i ++ (⟨h, r, s, has, bl, f⟩ : Vt) :: L.drop i = (L.take i ++ [⟨h, r, s, has, bl, f⟩]) ++ L.drop i := by simp
              have own9 : (w8.setCell ⟨rb, 2, none⟩ (.slice a3 (L.length + 1) m3)).ownsRow w5.heap.size 34 6 (.slice a3 (L.length + 1) m3) (L.length + 1) (flatV (L.take i ++ (⟨h, r, s, has, bl, f⟩ : Vt) :: L.drop i)) := by rw [hFl]; exact bc.owns own3 (fun g e q => by have := (own3.lt g e).1; omega)
              have s9 := bc.seats (hST.below b4) (fun a ha => (hsa a ha).1)
              obtain ⟨_, _, hj1, hj2⟩ := VotesAt.of_owns (m := L.take i ++ (⟨h, r, s, has, bl, f⟩ : Vt) :: L.drop i) (by rw [hLen]; exact own9)
              rw [hLen] at hj1
              cases hj1
              have H9 : RcAt (w8.setCell ⟨rb, 2, none⟩ (.slice a3 (L.length + 1) m3)) rb sa sc x h a3 m3 (L.take i ++ (⟨h, r, s, has, bl, f⟩ : Vt) :: L.drop i) := ⟨by rw [hLen]; exact k9, s9, hj2⟩
              have own10 : (w8.setCell ⟨rb, 2, none⟩ (.slice a3 (L.length + 1) m3)).ownsRow w.heap.size 34 6 (.slice a3 (L.take i ++ (⟨h, r, s, has, bl, f⟩ : Vt) :: L.drop i).length m3) (L.take i ++ (⟨h, r, s, has, bl, f⟩ : Vt) :: L.drop i).length (flatV (L.take i ++ (⟨h, r, s, has, bl, f⟩ : Vt) :: L.drop i)) := by rw [hLen]; exact owns_base own9 B5.size
              have B9 : But (fun k => k = rb) w (w8.setCell ⟨rb, 2, none⟩ (.slice a3 (L.length + 1) m3)) := (But.of_below (B5.trans (b4.mono B5.size))).trans bc
              have kG9 := bc.blk (kG5.below b4 kG5.lt) (by omega)
              have hz9 := kG9.lt
              have hfr9 := owns_fresh own9
              have HX := show Hid (RcAt _ _ _ _ _ _ _ _ _ ∧ World.ownsRow _ _ _ _ _ _ _ ∧ But _ _ _) from ⟨H9, own10, B9⟩
              clear H9 own10 B9 own9 s9 hj2 bc k9 hLen hFl
              go_upto_region 19 with (at_builtin; refine wpList_append_run rfl _ _ 23 rfl _ _ _ w6 rfl rfl hr1 ?_)
              go_upto_region 20 with (at_builtin; refine wpList_append_run rfl _ _ 23 rfl _ _ _ w7 rfl rfl hr2 ?_)
              go_upto_region 21 with (at_builtin; refine wpList_append_run rfl _ _ 23 rfl _ _ _ w8 rfl rfl hr3 ?_)
              clear x8 f8 z8 kR8 b4 own3 hgr3
              generalize (w8.setCell ⟨rb, 2, none⟩ (.slice a3 (L.length + 1) m3)) = w9 at *
              have y0 := (kG9.cell 0).trans rfl
              have y1 := (kG9.cell 1).trans rfl
              have y2 := (kG9.cell 2).trans rfl
              have y3 := (kG9.cell 3).trans rfl
              have y4 := (kG9.cell 4).trans rfl
              have y5 := (kG9.cell 5).trans rfl
              have y6 := (kG9.cell 6).trans rfl
              have y7 := (kG9.cell 7).trans rfl
              have y8 := (kG9.cell 8).trans rfl
              have y9 := (kG9.cell 9).trans rfl
              have y10 := (kG9.cell 10).trans rfl
              have y11 := (kG9.cell 11).trans rfl
              have q0 := kG9.frozen 0
              have q1 := kG9.frozen 1
              have q2 := kG9.frozen 2
              have q3 := kG9.frozen 3
              have q4 := kG9.frozen 4
              have q5 := kG9.frozen 5
              have q6 := kG9.frozen 6
              have q7 := kG9.frozen 7
              have q8 := kG9.frozen 8
              have q9 := kG9.frozen 9
              have q10 := kG9.frozen 10
              have q11 := kG9.frozen 11
              go_wp2
              refine bodyPost_ret (v := .tuple #[.agg #[.int .i64 0, .int .i64 0, .int .i64 0, .bool false, .int .u64 0, .int .i64 0, .int .i64 0, .int .i64 0, .int .i64 0, .bool false, .int .u64 0, .int .i64 0], .int .i64 0]) (by simp [results, Try.results7, go_sem, y0, y1, y2, y3, y4, y5, y6, y7, y8, y9, y10, y11]) rfl ?_
              have bF : But (fun k => k = w.heap.size + 1) w9 _ := but12c w9 (w.heap.size + 1)
              obtain ⟨H9, own10, B9⟩ := HX.out
              have hob : ∀ a, a3 = some a → a.block ≠ w.heap.size + 1 := fun a ha => by have := hfr9 a ha; omega
              exact .inr ⟨rfl, i, hi, HT.out, HN.out, .inr (.inr ⟨HNP.out, rfl, a3, m3, RcAt.but H9 bF (by omega) (fun a ha => by have := (hsa a ha).2; omega) hob, bF.owns own10 (fun g e q => by cases a3 with | none => cases e | some a => exact hob a rfl (by rw [← q]; exact Option.some.inj e)), But.trans_neww B9 bF (fun k hk e => by omega)⟩)⟩
end Go.Proofs.Ytimcddknoanghaa
