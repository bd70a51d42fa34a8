/- A vote is counted: the program's. -/
import Derived.Test.YtimcddknoanghaaKIns
import Derived.Test.YtimcddknoanghaaKRef
import Derived.Test.YtimcddknoanghaaKBut
import Derived.Test.YtimcddknoanghaaTLate
import Derived.Deep.RegionHeld3
namespace Go.Proofs.Ytimcddknoanghaa
open Go.RowKit Go.Maps
set_option linter.unusedVariables false
set_option linter.unusedSimpArgs false

/-- What was said there lies in a variable. -/
def SaidIn (wA : World) (o : Option Vt) (sv bv : Value) (wx : World) : Prop :=
  ∃ b u, sv = .pointer (some ⟨b, 0, none⟩) ∧ bv = .bool o.isSome ∧ Below wA.heap.size wA wx ∧ wA.heap.size ≤ b ∧ Blk wx b #[.int .i64 u.h, .int .i64 u.r, .int .i64 u.s, .bool u.has, .int .u64 u.bl, .int .i64 u.f] 34 ∧ ∀ y : Vt, o = some y → u = y
theorem lookV_eq (o : Option Vt) : ∃ u : Vt, lookV o = .tuple #[.agg #[.int .i64 u.h, .int .i64 u.r, .int .i64 u.s, .bool u.has, .int .u64 u.bl, .int .i64 u.f], .bool o.isSome] ∧ ∀ y : Vt, o = some y → u = y := by
  cases o with
  | none => exact ⟨⟨0, 0, 0, false, 0, 0⟩, rfl, fun y h => by cases h⟩
  | some v => exact ⟨v, rfl, fun y h => by cases h; rfl⟩
/-- What Add gives, and leaves. -/
def AddX (base cb mb : Nat) (sa : Option Addr) (sc : Nat) (x : List (Int × Int)) (ht : Int) (m : List Vt) (rv : Value) (rs : List Int) (v : Vt) (P : Int) (w : World) (e : Ending) (w' : World) : Prop :=
  (P ≠ 0 ∧ e = .returned (.tuple #[.agg #[.int .i64 0, .int .i64 0, .int .i64 0, .bool false, .int .u64 0, .int .i64 0, .int .i64 0, .int .i64 0, .int .i64 0, .bool false, .int .u64 0, .int .i64 0], .int .i64 P]) ∧ Below w.heap.size w w') ∨
  (P = 0 ∧ ((∃ u, atPl m v.r v.s v.f = some u ∧ u = v ∧ e = .returned (.tuple #[.agg #[.int .i64 0, .int .i64 0, .int .i64 0, .bool false, .int .u64 0, .int .i64 0, .int .i64 0, .int .i64 0, .int .i64 0, .bool false, .int .u64 0, .int .i64 0], .int .i64 31]) ∧ Below w.heap.size w w') ∨
   (∃ u, atPl m v.r v.s v.f = some u ∧ u ≠ v ∧ e = .returned (.tuple #[.agg #[.int .i64 u.h, .int .i64 u.r, .int .i64 u.s, .bool u.has, .int .u64 u.bl, .int .i64 u.f, .int .i64 v.h, .int .i64 v.r, .int .i64 v.s, .bool v.has, .int .u64 v.bl, .int .i64 v.f], .int .i64 23]) ∧ Below w.heap.size w w') ∨
   (atPl m v.r v.s v.f = none ∧ e = .returned (.tuple #[.agg #[.int .i64 0, .int .i64 0, .int .i64 0, .bool false, .int .u64 0, .int .i64 0, .int .i64 0, .int .i64 0, .int .i64 0, .bool false, .int .u64 0, .int .i64 0], .int .i64 0]) ∧ ∃ rv' rs', CntAt w' base cb mb sa sc x ht (m ++ [v]) rv' rs' ∧ But (fun k => k = cb ∨ k = mb ∨ rv.ownBlock = some k) w w' ∧ (rv'.ownBlock = rv.ownBlock ∨ ∃ g, rv'.ownBlock = some g ∧ w.heap.size ≤ g) ∧ rs' = (if rs.contains v.r = true then rs else insAt rs (rs.countP (· < v.r)) v.r))))

/-- As it was, but for one block; what is new may be anything. -/
def OffB (b : Nat) (w w' : World) : Prop := ∀ p : Addr, p.block ≠ b → p.block < w.heap.size → w'.cell? p = w.cell? p
theorem OffB.refl (b : Nat) (w : World) : OffB b w w := fun _ _ _ => rfl
theorem OffB.below {b : Nat} {w w' : World} (h : Below w.heap.size w w') : OffB b w w' := fun p _ hp => h.cell hp
theorem cell_grown {w w' : World} {row : Option Nat} (h : w.grownBy w' row) {p : Addr} (hp : p.block < w.heap.size) (hne : row ≠ some p.block) : w'.cell? p = w.cell? p := by
  have := h.block _ hp (fun e => hne e.symm)
  unfold World.cell?
  rw [this]
theorem OffB.grown {b : Nat} {w w' w'' : World} (h : OffB b w w') (hs : w.heap.size ≤ w'.heap.size) (hg : w'.grownBy w'' (some b)) : OffB b w w'' := fun p hb hp => (cell_grown hg (Nat.lt_of_lt_of_le hp hs) (fun e => hb (Option.some.inj e).symm)).trans (h p hb hp)
theorem atPl_spec {m : List Vt} {r s f : Int} {u : Vt} (h : atPl m r s f = some u) : u.r = r ∧ u.s = s ∧ u.f = f := by
  have := List.find?_some h
  simp only [Bool.and_eq_true, decide_eq_true_eq] at this
  exact ⟨this.1.1, this.1.2, this.2⟩
theorem own_slice {w : World} {base : Nat} {e : TypeId} {size : Nat} {v : Value} {n : Nat} {xs : List Value} (h : w.ownsRow base e size v n xs) : ∃ a c, v = .slice a n c := by
  rcases h.2 with ⟨h1, h2⟩ | ⟨g, cap, cur, h1, _⟩
  · exact ⟨none, 0, by rw [h1, h2]⟩
  · exact ⟨_, _, h1⟩
theorem But.trans_new {S T : Nat → Prop} {a b c : World} (h : But S a b) (k : But T b c) (hs : ∀ k, k < a.heap.size → T k → S k) : But S a c :=
  ⟨k.os.trans h.os, k.tape.trans h.tape, k.output.trans h.output, Nat.le_trans h.size k.size, fun i hi hn => (k.block i (Nat.lt_of_lt_of_le hi h.size) (fun q => hn (hs i hi q))).trans (h.block i hi hn)⟩
theorem But.at (w : World) (b i : Nat) (v : Value) : But (fun k => k = b) w (w.setCell ⟨b, i, none⟩ v) := But.set (S := fun k => k = b) w (p := ⟨b, i, none⟩) rfl v
theorem but12 (w : World) (b : Nat) : But (fun k => k = b) w ((((((((((((w.setCell ⟨b, 0, none⟩ (.int .i64 0)).setCell ⟨b, 1, none⟩ (.int .i64 0)).setCell ⟨b, 2, none⟩ (.int .i64 0)).setCell ⟨b, 3, none⟩ (.bool false)).setCell ⟨b, 4, none⟩ (.int .u64 0)).setCell ⟨b, 5, none⟩ (.int .i64 0)).setCell ⟨b, 6, none⟩ (.int .i64 0)).setCell ⟨b, 7, none⟩ (.int .i64 0)).setCell ⟨b, 8, none⟩ (.int .i64 0)).setCell ⟨b, 9, none⟩ (.bool false)).setCell ⟨b, 10, none⟩ (.int .u64 0)).setCell ⟨b, 11, none⟩ (.int .i64 0)) := by
  iterate 12 refine But.trans ?_ (But.at _ _ _ _)
  exact But.refl _ _

set_option maxRecDepth 8000 in
set_option maxHeartbeats 6400000 in
theorem add_any (base cb mb : Nat) (sa : Option Addr) (sc : Nat) (x : List (Int × Int)) (ht : Int) (m : List Vt) (rv : Value) (rs : List Int) (h r s : Int) (has : Bool) (bl f : Int) (S : ByteArray) (E : Int) (w : World)
    (H : CntAt w base cb mb sa sc x ht m rv rs) (hx : x.length ≤ 64) (hk : InN3 r s f) (hrl : rs.length ≤ 512) (hrs : rs.Pairwise (· < ·)) (hbs : base ≤ w.heap.size) (hcm : cb ≠ mb) (hcr : rv.ownBlock ≠ some cb) (hmr : rv.ownBlock ≠ some mb) (hsa : ∀ a, sa = some a → a.block ≠ cb ∧ a.block ≠ mb ∧ rv.ownBlock ≠ some a.block ∧ a.block < w.heap.size)
    (K : ∀ y : World, Below w.heap.size w y → Calls Try.prog 43 #[.agg #[.int .i64 h, .int .i64 r, .int .i64 s, .bool has, .int .u64 bl, .int .i64 f]] y fun e w' => e = .returned (.tuple #[.string S, .int .i64 E]) ∧ Below y.heap.size y w') :
    Calls Try.prog 6 #[.pointer (some ⟨cb, 0, none⟩), .agg #[.int .i64 h, .int .i64 r, .int .i64 s, .bool has, .int .u64 bl, .int .i64 f]] w fun e w' => AddX base cb mb sa sc x ht m rv rs ⟨h, r, s, has, bl, f⟩ (refP E ht x h f) w e w' := by
  obtain ⟨ra, rc, rfl, _⟩ := IntsAt.of_owns H.rounds
  have bA : Below w.heap.size w ((w.alloc (.cells #[.int .i64 h, .int .i64 r, .int .i64 s, .bool has, .int .u64 bl, .int .i64 f] 34)).alloc (.cells #[.int .i64 0, .int .i64 0, .int .i64 0, .bool false, .int .u64 0, .int .i64 0, .int .i64 0, .int .i64 0, .int .i64 0, .bool false, .int .u64 0, .int .i64 0] 36)) := ((Below.refl _ _).alloc (Nat.le_refl _) _).alloc (by simp) _
  have kV := (Blk.new w #[.int .i64 h, .int .i64 r, .int .i64 s, .bool has, .int .u64 bl, .int .i64 f] 34).alloc (.cells #[.int .i64 0, .int .i64 0, .int .i64 0, .bool false, .int .u64 0, .int .i64 0, .int .i64 0, .int .i64 0, .int .i64 0, .bool false, .int .u64 0, .int .i64 0] 36)
  have kG := Blk.new (w.alloc (.cells #[.int .i64 h, .int .i64 r, .int .i64 s, .bool has, .int .u64 bl, .int .i64 f] 34)) #[.int .i64 0, .int .i64 0, .int .i64 0, .bool false, .int .u64 0, .int .i64 0, .int .i64 0, .int .i64 0, .int .i64 0, .bool false, .int .u64 0, .int .i64 0] 36
  rw [World.size_alloc] at kG
  have c0 := (H.k.cell 0).trans rfl
  have c1 := (H.k.cell 1).trans rfl
  have zc := H.k.lt
  have KR := refuses_any cb sa sc x ht h r s has bl f S E ((w.alloc (.cells #[.int .i64 h, .int .i64 r, .int .i64 s, .bool has, .int .u64 bl, .int .i64 f] 34)).alloc (.cells #[.int .i64 0, .int .i64 0, .int .i64 0, .bool false, .int .u64 0, .int .i64 0, .int .i64 0, .int .i64 0, .int .i64 0, .bool false, .int .u64 0, .int .i64 0] 36)) hx (Nat.lt_of_lt_of_le zc bA.size) ((bA.cell (p := ⟨cb, 0, none⟩) zc).trans c0) ((bA.cell (p := ⟨cb, 1, none⟩) zc).trans c1) (H.seats.below bA) (fun y hy => K y (bA.trans (hy.mono bA.size)))
  clear K c0 c1
  obtain ⟨P, HP⟩ : ∃ P, Hid (refP E ht x h f = P) := ⟨_, rfl⟩
  rw [HP.out] at KR ⊢
  go_enter Try.func6, Try.ntmps6
  go_wp2_with fail
  refine KR.mono ?_
  rintro e w1 ⟨rfl, b1⟩
  have B1 := bA.trans (b1.mono bA.size)
  have kV1 := kV.below b1 kV.lt
  have kG1 := kG.below b1 kG.lt
  clear KR kV kG b1 bA
  by_cases hP : P = 0
  rotate_left
  · have hPd : (P != 0) = true := by simpa using hP
    have HPN := show Hid _ from hP
    have g12 := kG1.lt
    have y0 := (kG1.cell 0).trans rfl
    have y1 := (kG1.cell 1).trans rfl
    have y2 := (kG1.cell 2).trans rfl
    have y3 := (kG1.cell 3).trans rfl
    have y4 := (kG1.cell 4).trans rfl
    have y5 := (kG1.cell 5).trans rfl
    have y6 := (kG1.cell 6).trans rfl
    have y7 := (kG1.cell 7).trans rfl
    have y8 := (kG1.cell 8).trans rfl
    have y9 := (kG1.cell 9).trans rfl
    have y10 := (kG1.cell 10).trans rfl
    have y11 := (kG1.cell 11).trans rfl
    have q0 := kG1.frozen 0
    have q1 := kG1.frozen 1
    have q2 := kG1.frozen 2
    have q3 := kG1.frozen 3
    have q4 := kG1.frozen 4
    have q5 := kG1.frozen 5
    have q6 := kG1.frozen 6
    have q7 := kG1.frozen 7
    have q8 := kG1.frozen 8
    have q9 := kG1.frozen 9
    have q10 := kG1.frozen 10
    have q11 := kG1.frozen 11
    clear hP
    go_wp2
    refine bodyPost_ret (v := .tuple #[.agg #[.int .i64 0, .int .i64 0, .int .i64 0, .bool false, .int .u64 0, .int .i64 0, .int .i64 0, .int .i64 0, .int .i64 0, .bool false, .int .u64 0, .int .i64 0], .int .i64 P]) (by simp [results, Try.results6, go_sem, y0, y1, y2, y3, y4, y5, y6, y7, y8, y9, y10, y11]) rfl ?_
    refine .inl ⟨HPN.out, rfl, ?_⟩
    iterate 12 refine Below.setCell ?_ (by show w.heap.size ≤ w.heap.size + 1; omega) _
    exact B1
  · subst hP
    have H1 := H.below B1
    have zc1 := H1.k.lt
    have hzv := kV1.lt
    have hzg := kG1.lt
    have D2 : ∀ w', Below w1.heap.size w1 w' → w'.cell? ⟨cb, 2, none⟩ = some (.map (some mb)) := fun w' hb => ((H1.k.below hb H1.k.lt).cell 2).trans rfl
    have DV0 : ∀ w', Below w1.heap.size w1 w' → w'.cell? ⟨w.heap.size, 0, none⟩ = some (.int .i64 h) := fun w' hb => ((kV1.below hb kV1.lt).cell 0).trans rfl
    have DV1 : ∀ w', Below w1.heap.size w1 w' → w'.cell? ⟨w.heap.size, 1, none⟩ = some (.int .i64 r) := fun w' hb => ((kV1.below hb kV1.lt).cell 1).trans rfl
    have DV2 : ∀ w', Below w1.heap.size w1 w' → w'.cell? ⟨w.heap.size, 2, none⟩ = some (.int .i64 s) := fun w' hb => ((kV1.below hb kV1.lt).cell 2).trans rfl
    have DV3 : ∀ w', Below w1.heap.size w1 w' → w'.cell? ⟨w.heap.size, 3, none⟩ = some (.bool has) := fun w' hb => ((kV1.below hb kV1.lt).cell 3).trans rfl
    have DV4 : ∀ w', Below w1.heap.size w1 w' → w'.cell? ⟨w.heap.size, 4, none⟩ = some (.int .u64 bl) := fun w' hb => ((kV1.below hb kV1.lt).cell 4).trans rfl
    have DV5 : ∀ w', Below w1.heap.size w1 w' → w'.cell? ⟨w.heap.size, 5, none⟩ = some (.int .i64 f) := fun w' hb => ((kV1.below hb kV1.lt).cell 5).trans rfl
    have DL : ∀ w', Below w1.heap.size w1 w' → (Instr.lookup 54 (.map (some mb)) (.agg #[.int .i64 r, .int .i64 s, .int .i64 f]) true).run Try.prog w' = .ok (lookV (atPl m r s f)) w' := fun w' hb => (H1.map.below hb H1.map.lt).look hk
    obtain ⟨o, ho⟩ : ∃ o, atPl m r s f = o := ⟨_, rfl⟩
    rw [ho] at DL
    obtain ⟨u, hlk, hu⟩ := lookV_eq o
    rw [hlk] at DL
    have HO := show Hid (_ = _) from ho
    have HU := show Hid _ from hu
    clear ho hlk hu
    have bw : Below w1.heap.size w1 w1 := Below.refl _ _
    go_upto_region 4 with fail
    go_cut [7, 8] (fun sv bv wx => SaidIn w1 o sv bv wx)
    case first =>
      have bw0 : Below w1.heap.size w1 w1.drew := bw.drew
      refine wp_region_held (S := fun w' => Below w1.heap.size w1 w') (by kernel_rfl) ?_
      refine wpAnyH_take (i := 0) (v := ?_) rfl (by kernel_rfl) (by kernel_rfl) (by kernel_rfl) (fun _ _ _ h => h) (Or.inl ⟨by kernel_rfl, ?_⟩) (by assumption) ?_
      rotate_left
      · intro w' hSw
        have e2 := D2 _ hSw
        have ev0 := DV0 _ hSw
        have ev1 := DV1 _ hSw
        have ev2 := DV2 _ hSw
        have ev3 := DV3 _ hSw
        have ev4 := DV4 _ hSw
        have ev5 := DV5 _ hSw
        have el := DL _ hSw
        go_simp
        first | (with_reducible rfl) | done | assumption | skip
      simp only [Act.put, List.getElem_toArray, List.getElem_cons_succ, List.getElem_cons_zero, List.setIfInBounds_toArray, List.set_cons_zero, List.set_cons_succ]
      refine wpAnyH_take (i := 1) (v := ?_) rfl (by kernel_rfl) (by kernel_rfl) (by kernel_rfl) (fun _ _ _ h => h) (Or.inl ⟨by kernel_rfl, ?_⟩) (by assumption) ?_
      rotate_left
      · intro w' hSw
        have e2 := D2 _ hSw
        have ev0 := DV0 _ hSw
        have ev1 := DV1 _ hSw
        have ev2 := DV2 _ hSw
        have ev3 := DV3 _ hSw
        have ev4 := DV4 _ hSw
        have ev5 := DV5 _ hSw
        have el := DL _ hSw
        go_simp
        first | (with_reducible rfl) | done | assumption | skip
      simp only [Act.put, List.getElem_toArray, List.getElem_cons_succ, List.getElem_cons_zero, List.setIfInBounds_toArray, List.set_cons_zero, List.set_cons_succ]
      refine wpAnyH_take (i := 2) (v := ?_) rfl (by kernel_rfl) (by kernel_rfl) (by kernel_rfl) (fun _ _ _ h => h) (Or.inl ⟨by kernel_rfl, ?_⟩) (by assumption) ?_
      rotate_left
      · intro w' hSw
        have e2 := D2 _ hSw
        have ev0 := DV0 _ hSw
        have ev1 := DV1 _ hSw
        have ev2 := DV2 _ hSw
        have ev3 := DV3 _ hSw
        have ev4 := DV4 _ hSw
        have ev5 := DV5 _ hSw
        have el := DL _ hSw
        go_simp
        first | (with_reducible rfl) | done | assumption | skip
      simp only [Act.put, List.getElem_toArray, List.getElem_cons_succ, List.getElem_cons_zero, List.setIfInBounds_toArray, List.set_cons_zero, List.set_cons_succ]
      refine wpAnyH_take (i := 3) (v := ?_) rfl (by kernel_rfl) (by kernel_rfl) (by kernel_rfl) (fun _ _ _ h => h) (Or.inl ⟨by kernel_rfl, ?_⟩) (by assumption) ?_
      rotate_left
      · intro w' hSw
        have e2 := D2 _ hSw
        have ev0 := DV0 _ hSw
        have ev1 := DV1 _ hSw
        have ev2 := DV2 _ hSw
        have ev3 := DV3 _ hSw
        have ev4 := DV4 _ hSw
        have ev5 := DV5 _ hSw
        have el := DL _ hSw
        go_simp
        first | (with_reducible rfl) | done | assumption | skip
      simp only [Act.put, List.getElem_toArray, List.getElem_cons_succ, List.getElem_cons_zero, List.setIfInBounds_toArray, List.set_cons_zero, List.set_cons_succ]
      refine wpAnyH_take (i := 4) (v := ?_) rfl (by kernel_rfl) (by kernel_rfl) (by kernel_rfl) (fun _ _ _ h => h) (Or.inl ⟨by kernel_rfl, ?_⟩) (by assumption) ?_
      rotate_left
      · intro w' hSw
        have e2 := D2 _ hSw
        have ev0 := DV0 _ hSw
        have ev1 := DV1 _ hSw
        have ev2 := DV2 _ hSw
        have ev3 := DV3 _ hSw
        have ev4 := DV4 _ hSw
        have ev5 := DV5 _ hSw
        have el := DL _ hSw
        go_simp
        first | (with_reducible rfl) | done | assumption | skip
      simp only [Act.put, List.getElem_toArray, List.getElem_cons_succ, List.getElem_cons_zero, List.setIfInBounds_toArray, List.set_cons_zero, List.set_cons_succ]
      refine wpAnyH_ready (rs := [5, 10]) (by kernel_rfl) (by simp) ?_
      refine AllReadyH.cons rfl (fun K hK => ?_) (AllReadyH.cons rfl (fun K hK => ?_) AllReadyH.nil)
      · go_simp
        refine (placeOf_any h r s has bl f _).mono ?_
        rintro e w3 ⟨rfl, b3⟩
        have hN3 : Below w1.heap.size w1 w3 := Below.trans (by assumption) (b3.mono (Below.size (by assumption)))
        refine hK.out _ _ hN3 (fun _ => ?_)
        clear hK K
        try simp only [Act.put, List.getElem_toArray, List.getElem_cons_succ, List.getElem_cons_zero, List.setIfInBounds_toArray, List.set_cons_zero, List.set_cons_succ]
        refine wpAnyH_take (i := 6) (v := ?_) rfl (by kernel_rfl) (by kernel_rfl) (by kernel_rfl) (fun _ _ _ h => h) (Or.inl ⟨by kernel_rfl, ?_⟩) (by assumption) ?_
        rotate_left
        · intro w' hSw
          have e2 := D2 _ hSw
          have ev0 := DV0 _ hSw
          have ev1 := DV1 _ hSw
          have ev2 := DV2 _ hSw
          have ev3 := DV3 _ hSw
          have ev4 := DV4 _ hSw
          have ev5 := DV5 _ hSw
          have el := DL _ hSw
          go_simp
          first | (with_reducible rfl) | done | assumption | skip
        simp only [Act.put, List.getElem_toArray, List.getElem_cons_succ, List.getElem_cons_zero, List.setIfInBounds_toArray, List.set_cons_zero, List.set_cons_succ]
        refine wpAnyH_take (i := 7) (v := ?_) rfl (by kernel_rfl) (by kernel_rfl) (by kernel_rfl) (fun _ _ _ h => h) (Or.inl ⟨by kernel_rfl, ?_⟩) (by assumption) ?_
        rotate_left
        · intro w' hSw
          have e2 := D2 _ hSw
          have ev0 := DV0 _ hSw
          have ev1 := DV1 _ hSw
          have ev2 := DV2 _ hSw
          have ev3 := DV3 _ hSw
          have ev4 := DV4 _ hSw
          have ev5 := DV5 _ hSw
          have el := DL _ hSw
          go_simp
          first | (with_reducible rfl) | done | assumption | skip
        simp only [Act.put, List.getElem_toArray, List.getElem_cons_succ, List.getElem_cons_zero, List.setIfInBounds_toArray, List.set_cons_zero, List.set_cons_succ]
        refine wpAnyH_take (i := 8) (v := ?_) rfl (by kernel_rfl) (by kernel_rfl) (by kernel_rfl) (fun _ _ _ h => h) (Or.inl ⟨by kernel_rfl, ?_⟩) (by assumption) ?_
        rotate_left
        · intro w' hSw
          have e2 := D2 _ hSw
          have ev0 := DV0 _ hSw
          have ev1 := DV1 _ hSw
          have ev2 := DV2 _ hSw
          have ev3 := DV3 _ hSw
          have ev4 := DV4 _ hSw
          have ev5 := DV5 _ hSw
          have el := DL _ hSw
          go_simp
          first | (with_reducible rfl) | done | assumption | skip
        simp only [Act.put, List.getElem_toArray, List.getElem_cons_succ, List.getElem_cons_zero, List.setIfInBounds_toArray, List.set_cons_zero, List.set_cons_succ]
        refine wpAnyH_take (i := 9) (v := ?_) rfl (by kernel_rfl) (by kernel_rfl) (by kernel_rfl) (fun _ _ _ h => h) (Or.inl ⟨by kernel_rfl, ?_⟩) (by assumption) ?_
        rotate_left
        · intro w' hSw
          have e2 := D2 _ hSw
          have ev0 := DV0 _ hSw
          have ev1 := DV1 _ hSw
          have ev2 := DV2 _ hSw
          have ev3 := DV3 _ hSw
          have ev4 := DV4 _ hSw
          have ev5 := DV5 _ hSw
          have el := DL _ hSw
          go_simp
          first | (with_reducible rfl) | done | assumption | skip
        simp only [Act.put, List.getElem_toArray, List.getElem_cons_succ, List.getElem_cons_zero, List.setIfInBounds_toArray, List.set_cons_zero, List.set_cons_succ]
        refine wpAnyH_ready (rs := [10]) (by kernel_rfl) (by simp) ?_
        refine AllReadyH.cons rfl (fun K hK => ?_) AllReadyH.nil
        go_simp
        have bal : Below w1.heap.size w1 (w3.alloc (.cells #[.int .i64 0, .int .i64 0, .int .i64 0, .bool false, .int .u64 0, .int .i64 0] 34)) := bel_al hN3 _
        refine hK.out _ _ (by with_reducible exact bal) (fun _ => ?_)
        clear hK K
        try simp only [Act.put, List.getElem_toArray, List.getElem_cons_succ, List.getElem_cons_zero, List.setIfInBounds_toArray, List.set_cons_zero, List.set_cons_succ]
        have kN := Blk.new w3 #[.int .i64 0, .int .i64 0, .int .i64 0, .bool false, .int .u64 0, .int .i64 0] 34
        have n0 := (kN.cell 0).trans rfl
        have n1 := (kN.cell 1).trans rfl
        have n2 := (kN.cell 2).trans rfl
        have n3 := (kN.cell 3).trans rfl
        have n4 := (kN.cell 4).trans rfl
        have n5 := (kN.cell 5).trans rfl
        have nf0 := kN.frozen 0
        have nf1 := kN.frozen 1
        have nf2 := kN.frozen 2
        have nf3 := kN.frozen 3
        have nf4 := kN.frozen 4
        have nf5 := kN.frozen 5
        have nz := kN.lt
        refine wpAnyH_ready (rs := [11]) (by kernel_rfl) (by simp) ?_
        refine AllReadyH.cons rfl (fun K hK => ?_) AllReadyH.nil
        go_simp
        have bst : Below w1.heap.size w1 (w3.alloc (.cells #[.int .i64 u.h, .int .i64 u.r, .int .i64 u.s, .bool u.has, .int .u64 u.bl, .int .i64 u.f] 34)) := bel_al hN3 _
        refine hK.out _ _ (by with_reducible exact bst) (fun _ => ?_)
        clear hK K
        try simp only [Act.put, List.getElem_toArray, List.getElem_cons_succ, List.getElem_cons_zero, List.setIfInBounds_toArray, List.set_cons_zero, List.set_cons_succ]
        refine wpAnyH_take (i := 12) (v := ?_) rfl (by kernel_rfl) (by kernel_rfl) (by kernel_rfl) (fun _ _ _ h => h) (Or.inl ⟨by kernel_rfl, ?_⟩) (by assumption) ?_
        rotate_left
        · intro w' hSw
          skip
          go_simp
          first | (with_reducible rfl) | done | assumption | skip
        simp only [Act.put, List.getElem_toArray, List.getElem_cons_succ, List.getElem_cons_zero, List.setIfInBounds_toArray, List.set_cons_zero, List.set_cons_succ]
        refine wpAnyH_done (by kernel_rfl) ?_ _
        go_wp2
        go_meet
        case rel => exact ⟨_, u, rfl, rfl, bst, hN3.size, Blk.new w3 _ _, HU.out⟩
      · go_simp
        have bal : Below w1.heap.size w1 (w1.alloc (.cells #[.int .i64 0, .int .i64 0, .int .i64 0, .bool false, .int .u64 0, .int .i64 0] 34)).drew := (bel_al bw _).drew
        refine hK.out _ _ (by with_reducible exact bal) (fun _ => ?_)
        clear hK K
        try simp only [Act.put, List.getElem_toArray, List.getElem_cons_succ, List.getElem_cons_zero, List.setIfInBounds_toArray, List.set_cons_zero, List.set_cons_succ]
        refine wpAnyH_ready (rs := [5]) (by kernel_rfl) (by simp) ?_
        refine AllReadyH.cons rfl (fun K hK => ?_) AllReadyH.nil
        go_simp
        refine (placeOf_any h r s has bl f _).mono ?_
        rintro e w3 ⟨rfl, b3⟩
        have hN3 : Below w1.heap.size w1 w3 := Below.trans (by assumption) (b3.mono (Below.size (by assumption)))
        refine hK.out _ _ hN3 (fun _ => ?_)
        clear hK K
        try simp only [Act.put, List.getElem_toArray, List.getElem_cons_succ, List.getElem_cons_zero, List.setIfInBounds_toArray, List.set_cons_zero, List.set_cons_succ]
        refine wpAnyH_take (i := 6) (v := ?_) rfl (by kernel_rfl) (by kernel_rfl) (by kernel_rfl) (fun _ _ _ h => h) (Or.inl ⟨by kernel_rfl, ?_⟩) (by assumption) ?_
        rotate_left
        · intro w' hSw
          have e2 := D2 _ hSw
          have ev0 := DV0 _ hSw
          have ev1 := DV1 _ hSw
          have ev2 := DV2 _ hSw
          have ev3 := DV3 _ hSw
          have ev4 := DV4 _ hSw
          have ev5 := DV5 _ hSw
          have el := DL _ hSw
          go_simp
          first | (with_reducible rfl) | done | assumption | skip
        simp only [Act.put, List.getElem_toArray, List.getElem_cons_succ, List.getElem_cons_zero, List.setIfInBounds_toArray, List.set_cons_zero, List.set_cons_succ]
        refine wpAnyH_take (i := 7) (v := ?_) rfl (by kernel_rfl) (by kernel_rfl) (by kernel_rfl) (fun _ _ _ h => h) (Or.inl ⟨by kernel_rfl, ?_⟩) (by assumption) ?_
        rotate_left
        · intro w' hSw
          have e2 := D2 _ hSw
          have ev0 := DV0 _ hSw
          have ev1 := DV1 _ hSw
          have ev2 := DV2 _ hSw
          have ev3 := DV3 _ hSw
          have ev4 := DV4 _ hSw
          have ev5 := DV5 _ hSw
          have el := DL _ hSw
          go_simp
          first | (with_reducible rfl) | done | assumption | skip
        simp only [Act.put, List.getElem_toArray, List.getElem_cons_succ, List.getElem_cons_zero, List.setIfInBounds_toArray, List.set_cons_zero, List.set_cons_succ]
        refine wpAnyH_take (i := 8) (v := ?_) rfl (by kernel_rfl) (by kernel_rfl) (by kernel_rfl) (fun _ _ _ h => h) (Or.inl ⟨by kernel_rfl, ?_⟩) (by assumption) ?_
        rotate_left
        · intro w' hSw
          have e2 := D2 _ hSw
          have ev0 := DV0 _ hSw
          have ev1 := DV1 _ hSw
          have ev2 := DV2 _ hSw
          have ev3 := DV3 _ hSw
          have ev4 := DV4 _ hSw
          have ev5 := DV5 _ hSw
          have el := DL _ hSw
          go_simp
          first | (with_reducible rfl) | done | assumption | skip
        simp only [Act.put, List.getElem_toArray, List.getElem_cons_succ, List.getElem_cons_zero, List.setIfInBounds_toArray, List.set_cons_zero, List.set_cons_succ]
        refine wpAnyH_take (i := 9) (v := ?_) rfl (by kernel_rfl) (by kernel_rfl) (by kernel_rfl) (fun _ _ _ h => h) (Or.inl ⟨by kernel_rfl, ?_⟩) (by assumption) ?_
        rotate_left
        · intro w' hSw
          have e2 := D2 _ hSw
          have ev0 := DV0 _ hSw
          have ev1 := DV1 _ hSw
          have ev2 := DV2 _ hSw
          have ev3 := DV3 _ hSw
          have ev4 := DV4 _ hSw
          have ev5 := DV5 _ hSw
          have el := DL _ hSw
          go_simp
          first | (with_reducible rfl) | done | assumption | skip
        simp only [Act.put, List.getElem_toArray, List.getElem_cons_succ, List.getElem_cons_zero, List.setIfInBounds_toArray, List.set_cons_zero, List.set_cons_succ]
        have kN := Blk.below (Blk.new w1 #[.int .i64 0, .int .i64 0, .int .i64 0, .bool false, .int .u64 0, .int .i64 0] 34).drew b3 (Blk.new w1 #[.int .i64 0, .int .i64 0, .int .i64 0, .bool false, .int .u64 0, .int .i64 0] 34).drew.lt
        have n0 := (kN.cell 0).trans rfl
        have n1 := (kN.cell 1).trans rfl
        have n2 := (kN.cell 2).trans rfl
        have n3 := (kN.cell 3).trans rfl
        have n4 := (kN.cell 4).trans rfl
        have n5 := (kN.cell 5).trans rfl
        have nf0 := kN.frozen 0
        have nf1 := kN.frozen 1
        have nf2 := kN.frozen 2
        have nf3 := kN.frozen 3
        have nf4 := kN.frozen 4
        have nf5 := kN.frozen 5
        have nz := kN.lt
        refine wpAnyH_ready (rs := [11]) (by kernel_rfl) (by simp) ?_
        refine AllReadyH.cons rfl (fun K hK => ?_) AllReadyH.nil
        go_simp
        have bst : Below w1.heap.size w1 ((((((w3.setCell ⟨w1.heap.size, 0, none⟩ (.int .i64 u.h)).setCell ⟨w1.heap.size, 1, none⟩ (.int .i64 u.r)).setCell ⟨w1.heap.size, 2, none⟩ (.int .i64 u.s)).setCell ⟨w1.heap.size, 3, none⟩ (.bool u.has)).setCell ⟨w1.heap.size, 4, none⟩ (.int .u64 u.bl)).setCell ⟨w1.heap.size, 5, none⟩ (.int .i64 u.f)) := bel_six0 hN3 (Nat.le_refl _) _ _ _ _ _ _
        refine hK.out _ _ (by with_reducible exact bst) (fun _ => ?_)
        clear hK K
        try simp only [Act.put, List.getElem_toArray, List.getElem_cons_succ, List.getElem_cons_zero, List.setIfInBounds_toArray, List.set_cons_zero, List.set_cons_succ]
        refine wpAnyH_take (i := 12) (v := ?_) rfl (by kernel_rfl) (by kernel_rfl) (by kernel_rfl) (fun _ _ _ h => h) (Or.inl ⟨by kernel_rfl, ?_⟩) (by assumption) ?_
        rotate_left
        · intro w' hSw
          skip
          go_simp
          first | (with_reducible rfl) | done | assumption | skip
        simp only [Act.put, List.getElem_toArray, List.getElem_cons_succ, List.getElem_cons_zero, List.setIfInBounds_toArray, List.set_cons_zero, List.set_cons_succ]
        refine wpAnyH_done (by kernel_rfl) ?_ _
        go_wp2
        go_meet
        case rel => exact ⟨_, u, rfl, rfl, bst, Nat.le_refl _, ((((((kN.set 0 (.int .i64 u.h)).set 1 (.int .i64 u.r)).set 2 (.int .i64 u.s)).set 3 (.bool u.has)).set 4 (.int .u64 u.bl)).set 5 (.int .i64 u.f)), HU.out⟩
    case rest =>
      obtain ⟨sb, u2, rfl, rfl, bx, hsb, kS, HU2⟩ := hcut
      generalize wc = wx at *
      have H2 := H1.below bx
      have kV2 := kV1.below bx kV1.lt
      have kG2 := kG1.below bx kG1.lt
      have B2 := B1.trans (bx.mono B1.size)
      clear H1 kV1 kG1 D2 DV0 DV1 DV2 DV3 DV4 DV5 DL bw HU zc1 hzv hzg u
      have zs := kS.lt
      have zv := kV2.lt
      have zg := kG2.lt
      have zc2 := H2.k.lt
      cases o with
      | some y =>
        obtain rfl : u2 = y := HU2 y rfl
        clear HU2 H2
        have a0 := (kS.cell 0).trans rfl
        have a1 := (kS.cell 1).trans rfl
        have a2 := (kS.cell 2).trans rfl
        have a3 := (kS.cell 3).trans rfl
        have a4 := (kS.cell 4).trans rfl
        have a5 := (kS.cell 5).trans rfl
        have v0 := (kV2.cell 0).trans rfl
        have v1 := (kV2.cell 1).trans rfl
        have v2 := (kV2.cell 2).trans rfl
        have v3 := (kV2.cell 3).trans rfl
        have v4 := (kV2.cell 4).trans rfl
        have v5 := (kV2.cell 5).trans rfl
        have y0 := (kG2.cell 0).trans rfl
        have y1 := (kG2.cell 1).trans rfl
        have y2 := (kG2.cell 2).trans rfl
        have y3 := (kG2.cell 3).trans rfl
        have y4 := (kG2.cell 4).trans rfl
        have y5 := (kG2.cell 5).trans rfl
        have y6 := (kG2.cell 6).trans rfl
        have y7 := (kG2.cell 7).trans rfl
        have y8 := (kG2.cell 8).trans rfl
        have y9 := (kG2.cell 9).trans rfl
        have y10 := (kG2.cell 10).trans rfl
        have y11 := (kG2.cell 11).trans rfl
        have q0 := kG2.frozen 0
        have q1 := kG2.frozen 1
        have q2 := kG2.frozen 2
        have q3 := kG2.frozen 3
        have q4 := kG2.frozen 4
        have q5 := kG2.frozen 5
        have q6 := kG2.frozen 6
        have q7 := kG2.frozen 7
        have q8 := kG2.frozen 8
        have q9 := kG2.frozen 9
        have q10 := kG2.frozen 10
        have q11 := kG2.frozen 11
        obtain ⟨uh, ur, us, uhas, ubl, uf⟩ := u2
        simp only at a0 a1 a2 a3 a4 a5
        obtain ⟨e1, e2, e3⟩ := atPl_spec HO.out
        simp only at e1 e2 e3
        subst e1
        subst e2
        subst e3
        by_cases hh : uh = h
        · by_cases hs : uhas = has
          · by_cases hb : ubl = bl
            · subst hh
              subst hs
              subst hb
              go_wp2
              refine bodyPost_ret (v := .tuple #[.agg #[.int .i64 0, .int .i64 0, .int .i64 0, .bool false, .int .u64 0, .int .i64 0, .int .i64 0, .int .i64 0, .int .i64 0, .bool false, .int .u64 0, .int .i64 0], .int .i64 31]) (by simp [results, Try.results6, go_sem, y0, y1, y2, y3, y4, y5, y6, y7, y8, y9, y10, y11]) rfl ?_
              refine .inr ⟨rfl, .inl ⟨_, HO.out, rfl, rfl, ?_⟩⟩
              iterate 12 refine Below.setCell ?_ (by show w.heap.size ≤ w.heap.size + 1; omega) _
              exact B2
            · have HNE : Hid ((⟨uh, ur, us, uhas, ubl, uf⟩ : Vt) ≠ ⟨h, ur, us, has, bl, uf⟩) := fun e => hb (by injection e)
              have n1 : (ubl == bl) = false := by simpa using hb
              subst hh
              subst hs
              skip
              go_wp2
              refine bodyPost_ret (v := .tuple #[.agg #[.int .i64 uh, .int .i64 ur, .int .i64 us, .bool uhas, .int .u64 ubl, .int .i64 uf, .int .i64 uh, .int .i64 ur, .int .i64 us, .bool uhas, .int .u64 bl, .int .i64 uf], .int .i64 23]) (by simp [results, Try.results6, go_sem, y0, y1, y2, y3, y4, y5, y6, y7, y8, y9, y10, y11]) rfl ?_
              refine .inr ⟨rfl, .inr (.inl ⟨_, HO.out, HNE.out, rfl, ?_⟩)⟩
              iterate 12 refine Below.setCell ?_ (by show w.heap.size ≤ w.heap.size + 1; omega) _
              exact B2
          · have HNE : Hid ((⟨uh, ur, us, uhas, ubl, uf⟩ : Vt) ≠ ⟨h, ur, us, has, bl, uf⟩) := fun e => hs (by injection e)
            have n1 : (uhas == has) = false := by simpa using hs
            subst hh
            skip
            go_wp2
            refine bodyPost_ret (v := .tuple #[.agg #[.int .i64 uh, .int .i64 ur, .int .i64 us, .bool uhas, .int .u64 ubl, .int .i64 uf, .int .i64 uh, .int .i64 ur, .int .i64 us, .bool has, .int .u64 bl, .int .i64 uf], .int .i64 23]) (by simp [results, Try.results6, go_sem, y0, y1, y2, y3, y4, y5, y6, y7, y8, y9, y10, y11]) rfl ?_
            refine .inr ⟨rfl, .inr (.inl ⟨_, HO.out, HNE.out, rfl, ?_⟩)⟩
            iterate 12 refine Below.setCell ?_ (by show w.heap.size ≤ w.heap.size + 1; omega) _
            exact B2
        · have HNE : Hid ((⟨uh, ur, us, uhas, ubl, uf⟩ : Vt) ≠ ⟨h, ur, us, has, bl, uf⟩) := fun e => hh (by injection e)
          have n1 : (uh == h) = false := by simpa using hh
          skip
          go_wp2
          refine bodyPost_ret (v := .tuple #[.agg #[.int .i64 uh, .int .i64 ur, .int .i64 us, .bool uhas, .int .u64 ubl, .int .i64 uf, .int .i64 h, .int .i64 ur, .int .i64 us, .bool has, .int .u64 bl, .int .i64 uf], .int .i64 23]) (by simp [results, Try.results6, go_sem, y0, y1, y2, y3, y4, y5, y6, y7, y8, y9, y10, y11]) rfl ?_
          refine .inr ⟨rfl, .inr (.inl ⟨_, HO.out, HNE.out, rfl, ?_⟩)⟩
          iterate 12 refine Below.setCell ?_ (by show w.heap.size ≤ w.heap.size + 1; omega) _
          exact B2
      | none =>
        clear HU2 kS zs hsb
        have hmw := H.map.lt
        have C2 : ∀ w', OffB mb wx w' → w'.cell? ⟨cb, 2, none⟩ = some (.map (some mb)) := fun w' hb => (hb ⟨cb, 2, none⟩ hcm zc2).trans ((H2.k.cell 2).trans rfl)
        have CV0 : ∀ w', OffB mb wx w' → w'.cell? ⟨w.heap.size, 0, none⟩ = some (.int .i64 h) := fun w' hb => (hb ⟨w.heap.size, 0, none⟩ (by show w.heap.size ≠ mb; omega) zv).trans ((kV2.cell 0).trans rfl)
        have CV1 : ∀ w', OffB mb wx w' → w'.cell? ⟨w.heap.size, 1, none⟩ = some (.int .i64 r) := fun w' hb => (hb ⟨w.heap.size, 1, none⟩ (by show w.heap.size ≠ mb; omega) zv).trans ((kV2.cell 1).trans rfl)
        have CV2 : ∀ w', OffB mb wx w' → w'.cell? ⟨w.heap.size, 2, none⟩ = some (.int .i64 s) := fun w' hb => (hb ⟨w.heap.size, 2, none⟩ (by show w.heap.size ≠ mb; omega) zv).trans ((kV2.cell 2).trans rfl)
        have CV3 : ∀ w', OffB mb wx w' → w'.cell? ⟨w.heap.size, 3, none⟩ = some (.bool has) := fun w' hb => (hb ⟨w.heap.size, 3, none⟩ (by show w.heap.size ≠ mb; omega) zv).trans ((kV2.cell 3).trans rfl)
        have CV4 : ∀ w', OffB mb wx w' → w'.cell? ⟨w.heap.size, 4, none⟩ = some (.int .u64 bl) := fun w' hb => (hb ⟨w.heap.size, 4, none⟩ (by show w.heap.size ≠ mb; omega) zv).trans ((kV2.cell 4).trans rfl)
        have CV5 : ∀ w', OffB mb wx w' → w'.cell? ⟨w.heap.size, 5, none⟩ = some (.int .i64 f) := fun w' hb => (hb ⟨w.heap.size, 5, none⟩ (by show w.heap.size ≠ mb; omega) zv).trans ((kV2.cell 5).trans rfl)
        go_upto_region 9 with fail
        have of0 : OffB mb wx wx.drew := OffB.refl mb wx
        refine wp_region_held (S := fun w' => OffB mb wx w') (by kernel_rfl) ?_
        refine wpAnyH_take (i := 0) (v := ?_) rfl (by kernel_rfl) (by kernel_rfl) (by kernel_rfl) (fun _ _ _ h => h) (Or.inl ⟨by kernel_rfl, ?_⟩) (by assumption) ?_
        rotate_left
        · intro w' hSw
          have e2 := C2 _ hSw
          have ev0 := CV0 _ hSw
          have ev1 := CV1 _ hSw
          have ev2 := CV2 _ hSw
          have ev3 := CV3 _ hSw
          have ev4 := CV4 _ hSw
          have ev5 := CV5 _ hSw
          go_simp
          first | (with_reducible rfl) | done | assumption | skip
        simp only [Act.put, List.getElem_toArray, List.getElem_cons_succ, List.getElem_cons_zero, List.setIfInBounds_toArray, List.set_cons_zero, List.set_cons_succ]
        refine wpAnyH_take (i := 1) (v := ?_) rfl (by kernel_rfl) (by kernel_rfl) (by kernel_rfl) (fun _ _ _ h => h) (Or.inl ⟨by kernel_rfl, ?_⟩) (by assumption) ?_
        rotate_left
        · intro w' hSw
          have e2 := C2 _ hSw
          have ev0 := CV0 _ hSw
          have ev1 := CV1 _ hSw
          have ev2 := CV2 _ hSw
          have ev3 := CV3 _ hSw
          have ev4 := CV4 _ hSw
          have ev5 := CV5 _ hSw
          go_simp
          first | (with_reducible rfl) | done | assumption | skip
        simp only [Act.put, List.getElem_toArray, List.getElem_cons_succ, List.getElem_cons_zero, List.setIfInBounds_toArray, List.set_cons_zero, List.set_cons_succ]
        refine wpAnyH_take (i := 2) (v := ?_) rfl (by kernel_rfl) (by kernel_rfl) (by kernel_rfl) (fun _ _ _ h => h) (Or.inl ⟨by kernel_rfl, ?_⟩) (by assumption) ?_
        rotate_left
        · intro w' hSw
          have e2 := C2 _ hSw
          have ev0 := CV0 _ hSw
          have ev1 := CV1 _ hSw
          have ev2 := CV2 _ hSw
          have ev3 := CV3 _ hSw
          have ev4 := CV4 _ hSw
          have ev5 := CV5 _ hSw
          go_simp
          first | (with_reducible rfl) | done | assumption | skip
        simp only [Act.put, List.getElem_toArray, List.getElem_cons_succ, List.getElem_cons_zero, List.setIfInBounds_toArray, List.set_cons_zero, List.set_cons_succ]
        refine wpAnyH_take (i := 3) (v := ?_) rfl (by kernel_rfl) (by kernel_rfl) (by kernel_rfl) (fun _ _ _ h => h) (Or.inl ⟨by kernel_rfl, ?_⟩) (by assumption) ?_
        rotate_left
        · intro w' hSw
          have e2 := C2 _ hSw
          have ev0 := CV0 _ hSw
          have ev1 := CV1 _ hSw
          have ev2 := CV2 _ hSw
          have ev3 := CV3 _ hSw
          have ev4 := CV4 _ hSw
          have ev5 := CV5 _ hSw
          go_simp
          first | (with_reducible rfl) | done | assumption | skip
        simp only [Act.put, List.getElem_toArray, List.getElem_cons_succ, List.getElem_cons_zero, List.setIfInBounds_toArray, List.set_cons_zero, List.set_cons_succ]
        refine wpAnyH_take (i := 4) (v := ?_) rfl (by kernel_rfl) (by kernel_rfl) (by kernel_rfl) (fun _ _ _ h => h) (Or.inl ⟨by kernel_rfl, ?_⟩) (by assumption) ?_
        rotate_left
        · intro w' hSw
          have e2 := C2 _ hSw
          have ev0 := CV0 _ hSw
          have ev1 := CV1 _ hSw
          have ev2 := CV2 _ hSw
          have ev3 := CV3 _ hSw
          have ev4 := CV4 _ hSw
          have ev5 := CV5 _ hSw
          go_simp
          first | (with_reducible rfl) | done | assumption | skip
        simp only [Act.put, List.getElem_toArray, List.getElem_cons_succ, List.getElem_cons_zero, List.setIfInBounds_toArray, List.set_cons_zero, List.set_cons_succ]
        refine wpAnyH_take (i := 6) (v := ?_) rfl (by kernel_rfl) (by kernel_rfl) (by kernel_rfl) (fun _ _ _ h => h) (Or.inl ⟨by kernel_rfl, ?_⟩) (by assumption) ?_
        rotate_left
        · intro w' hSw
          have e2 := C2 _ hSw
          have ev0 := CV0 _ hSw
          have ev1 := CV1 _ hSw
          have ev2 := CV2 _ hSw
          have ev3 := CV3 _ hSw
          have ev4 := CV4 _ hSw
          have ev5 := CV5 _ hSw
          go_simp
          first | (with_reducible rfl) | done | assumption | skip
        simp only [Act.put, List.getElem_toArray, List.getElem_cons_succ, List.getElem_cons_zero, List.setIfInBounds_toArray, List.set_cons_zero, List.set_cons_succ]
        refine wpAnyH_ready (rs := [5]) (by kernel_rfl) (by simp) ?_
        refine AllReadyH.cons rfl (fun K hK => ?_) AllReadyH.nil
        go_simp
        refine (placeOf_any h r s has bl f _).mono ?_
        rintro e w4 ⟨rfl, b4⟩
        have b4' : Below wx.heap.size wx w4 := (Below.refl wx.heap.size wx).drew.trans b4
        refine hK.out _ _ (OffB.below b4') (fun _ => ?_)
        clear hK K
        try simp only [Act.put, List.getElem_toArray, List.getElem_cons_succ, List.getElem_cons_zero, List.setIfInBounds_toArray, List.set_cons_zero, List.set_cons_succ]
        refine wpAnyH_ready (rs := [7]) (by kernel_rfl) (by simp) ?_
        refine AllReadyH.cons rfl (fun K hK => ?_) AllReadyH.nil
        have hm4 := H2.map.below b4' H2.map.lt
        obtain ⟨w5, hr5, hP5, hg5⟩ := hm4.add ⟨h, r, s, has, bl, f⟩ hk HO.out
        simp only at hr5
        go_simp
        refine hK.out _ _ (OffB.grown (OffB.below b4') b4'.size hg5) (fun _ => ?_)
        clear hK K
        try simp only [Act.put, List.getElem_toArray, List.getElem_cons_succ, List.getElem_cons_zero, List.setIfInBounds_toArray, List.set_cons_zero, List.set_cons_succ]
        refine wpAnyH_done (by kernel_rfl) ?_ _
        clear C2 CV0 CV1 CV2 CV3 CV4 CV5
        have B5 : But (fun k => k = cb ∨ k = mb ∨ (Value.slice ra rs.length rc).ownBlock = some k) w w5 := (But.of_below (B2.trans (b4'.mono B2.size))).trans (But.of_grown hg5 (fun k e => .inr (.inl (Option.some.inj e).symm)))
        have bm : But (fun k => k = mb) wx w5 := (But.of_below b4').trans (But.of_grown hg5 (fun k e => (Option.some.inj e).symm))
        have k5 := bm.blk H2.k hcm
        have s5 := bm.seats H2.seats (fun a ha => (hsa a ha).2.1)
        have own5 := bm.owns H2.rounds (fun g e q => hmr (by rw [e, q]))
        have kV5 := bm.blk kV2 (by omega)
        have kG5 := bm.blk kG2 (by omega)
        clear hr5 hg5 b4' b4 bm H2 kV2 kG2 zv zg zc2
        have F3 : ∀ w', Below w5.heap.size w5 w' → w'.cell? ⟨cb, 3, none⟩ = some (.slice ra rs.length rc) := fun w' hb => ((k5.below hb k5.lt).cell 3).trans rfl
        have FV : ∀ w', Below w5.heap.size w5 w' → w'.cell? ⟨w.heap.size, 1, none⟩ = some (.int .i64 r) := fun w' hb => ((kV5.below hb kV5.lt).cell 1).trans rfl
        have zc5 := k5.lt
        have zv5 := kV5.lt
        obtain ⟨n, hn⟩ : ∃ n, rs.countP (fun z => decide (z < r)) = n := ⟨_, rfl⟩
        have HN : Hid (rs.countP (fun z => decide (z < r)) = n) := hn
        obtain ⟨Z, hZ⟩ : ∃ Z, rs.contains r = Z := ⟨_, rfl⟩
        have HZ : Hid (rs.contains r = Z) := hZ
        have hnl : rs.countP (fun z => decide (z < r)) ≤ rs.length := List.countP_le_length
        rw [hn] at hnl
        have KB := fun w' (ho : w'.ownsRow base 3 1 (.slice ra rs.length rc) rs.length (flatI rs)) => bins_any base (.slice ra rs.length rc) rs r w' ho (by omega) hrs
        simp only [hn, hZ] at KB
        clear hn hZ
        go_upto_region 10 with fail
        have bw50 : Below w5.heap.size w5 w5.drew := (Below.refl _ _).drew
        refine wp_region_held (S := fun w' => Below w5.heap.size w5 w') (by kernel_rfl) ?_
        refine wpAnyH_take (i := 0) (v := ?_) rfl (by kernel_rfl) (by kernel_rfl) (by kernel_rfl) (fun _ _ _ h => h) (Or.inl ⟨by kernel_rfl, ?_⟩) (by assumption) ?_
        rotate_left
        · intro w' hSw
          have e3 := F3 _ hSw
          have ev := FV _ hSw
          go_simp
          first | (with_reducible rfl) | done | assumption | skip
        simp only [Act.put, List.getElem_toArray, List.getElem_cons_succ, List.getElem_cons_zero, List.setIfInBounds_toArray, List.set_cons_zero, List.set_cons_succ]
        refine wpAnyH_take (i := 1) (v := ?_) rfl (by kernel_rfl) (by kernel_rfl) (by kernel_rfl) (fun _ _ _ h => h) (Or.inl ⟨by kernel_rfl, ?_⟩) (by assumption) ?_
        rotate_left
        · intro w' hSw
          have e3 := F3 _ hSw
          have ev := FV _ hSw
          go_simp
          first | (with_reducible rfl) | done | assumption | skip
        simp only [Act.put, List.getElem_toArray, List.getElem_cons_succ, List.getElem_cons_zero, List.setIfInBounds_toArray, List.set_cons_zero, List.set_cons_succ]
        refine wpAnyH_take (i := 2) (v := ?_) rfl (by kernel_rfl) (by kernel_rfl) (by kernel_rfl) (fun _ _ _ h => h) (Or.inl ⟨by kernel_rfl, ?_⟩) (by assumption) ?_
        rotate_left
        · intro w' hSw
          have e3 := F3 _ hSw
          have ev := FV _ hSw
          go_simp
          first | (with_reducible rfl) | done | assumption | skip
        simp only [Act.put, List.getElem_toArray, List.getElem_cons_succ, List.getElem_cons_zero, List.setIfInBounds_toArray, List.set_cons_zero, List.set_cons_succ]
        refine wpAnyH_take (i := 3) (v := ?_) rfl (by kernel_rfl) (by kernel_rfl) (by kernel_rfl) (fun _ _ _ h => h) (Or.inl ⟨by kernel_rfl, ?_⟩) (by assumption) ?_
        rotate_left
        · intro w' hSw
          have e3 := F3 _ hSw
          have ev := FV _ hSw
          go_simp
          first | (with_reducible rfl) | done | assumption | skip
        simp only [Act.put, List.getElem_toArray, List.getElem_cons_succ, List.getElem_cons_zero, List.setIfInBounds_toArray, List.set_cons_zero, List.set_cons_succ]
        refine wpAnyH_take (i := 4) (v := ?_) rfl (by kernel_rfl) (by kernel_rfl) (by kernel_rfl) (fun _ _ _ h => h) (Or.inl ⟨by kernel_rfl, ?_⟩) (by assumption) ?_
        rotate_left
        · intro w' hSw
          have e3 := F3 _ hSw
          have ev := FV _ hSw
          go_simp
          first | (with_reducible rfl) | done | assumption | skip
        simp only [Act.put, List.getElem_toArray, List.getElem_cons_succ, List.getElem_cons_zero, List.setIfInBounds_toArray, List.set_cons_zero, List.set_cons_succ]
        refine wpAnyH_take (i := 5) (v := ?_) rfl (by kernel_rfl) (by kernel_rfl) (by kernel_rfl) (fun _ _ _ h => h) (Or.inl ⟨by kernel_rfl, ?_⟩) (by assumption) ?_
        rotate_left
        · intro w' hSw
          have e3 := F3 _ hSw
          have ev := FV _ hSw
          go_simp
          first | (with_reducible rfl) | done | assumption | skip
        simp only [Act.put, List.getElem_toArray, List.getElem_cons_succ, List.getElem_cons_zero, List.setIfInBounds_toArray, List.set_cons_zero, List.set_cons_succ]
        refine wpAnyH_ready (rs := [6]) (by kernel_rfl) (by simp) ?_
        refine AllReadyH.cons rfl (fun K hK => ?_) AllReadyH.nil
        go_simp
        refine (KB _ own5.drew).mono ?_
        rintro e w6 ⟨rfl, q6, hq6⟩
        have b6 : Below w5.heap.size w5 w6 := by rw [hq6]; exact below_drewN bw50 _
        clear hq6
        refine hK.out _ _ b6 (fun _ => ?_)
        clear hK K
        try simp only [Act.put, List.getElem_toArray, List.getElem_cons_succ, List.getElem_cons_zero, List.setIfInBounds_toArray, List.set_cons_zero, List.set_cons_succ]
        refine wpAnyH_take (i := 7) (v := ?_) rfl (by kernel_rfl) (by kernel_rfl) (by kernel_rfl) (fun _ _ _ h => h) (Or.inl ⟨by kernel_rfl, ?_⟩) (by assumption) ?_
        rotate_left
        · intro w' hSw
          have e3 := F3 _ hSw
          have ev := FV _ hSw
          go_simp
          first | (with_reducible rfl) | done | assumption | skip
        simp only [Act.put, List.getElem_toArray, List.getElem_cons_succ, List.getElem_cons_zero, List.setIfInBounds_toArray, List.set_cons_zero, List.set_cons_succ]
        refine wpAnyH_take (i := 8) (v := ?_) rfl (by kernel_rfl) (by kernel_rfl) (by kernel_rfl) (fun _ _ _ h => h) (Or.inl ⟨by kernel_rfl, ?_⟩) (by assumption) ?_
        rotate_left
        · intro w' hSw
          have e3 := F3 _ hSw
          have ev := FV _ hSw
          go_simp
          first | (with_reducible rfl) | done | assumption | skip
        simp only [Act.put, List.getElem_toArray, List.getElem_cons_succ, List.getElem_cons_zero, List.setIfInBounds_toArray, List.set_cons_zero, List.set_cons_succ]
        refine wpAnyH_take (i := 9) (v := ?_) rfl (by kernel_rfl) (by kernel_rfl) (by kernel_rfl) (fun _ _ _ h => h) (Or.inl ⟨by kernel_rfl, ?_⟩) (by assumption) ?_
        rotate_left
        · intro w' hSw
          have e3 := F3 _ hSw
          have ev := FV _ hSw
          go_simp
          first | (with_reducible rfl) | done | assumption | skip
        simp only [Act.put, List.getElem_toArray, List.getElem_cons_succ, List.getElem_cons_zero, List.setIfInBounds_toArray, List.set_cons_zero, List.set_cons_succ]
        refine wpAnyH_take (i := 10) (v := ?_) rfl (by kernel_rfl) (by kernel_rfl) (by kernel_rfl) (fun _ _ _ h => h) (Or.inl ⟨by kernel_rfl, ?_⟩) (by assumption) ?_
        rotate_left
        · intro w' hSw
          have e3 := F3 _ hSw
          have ev := FV _ hSw
          go_simp
          first | (with_reducible rfl) | done | assumption | skip
        simp only [Act.put, List.getElem_toArray, List.getElem_cons_succ, List.getElem_cons_zero, List.setIfInBounds_toArray, List.set_cons_zero, List.set_cons_succ]
        refine wpAnyH_take (i := 11) (v := ?_) rfl (by kernel_rfl) (by kernel_rfl) (by kernel_rfl) (fun _ _ _ h => h) (Or.inl ⟨by kernel_rfl, ?_⟩) (by assumption) ?_
        rotate_left
        · intro w' hSw
          have e3 := F3 _ hSw
          have ev := FV _ hSw
          go_simp
          first | (with_reducible rfl) | done | assumption | skip
        simp only [Act.put, List.getElem_toArray, List.getElem_cons_succ, List.getElem_cons_zero, List.setIfInBounds_toArray, List.set_cons_zero, List.set_cons_succ]
        refine wpAnyH_done (by kernel_rfl) ?_ _
        clear F3 FV KB
        have B6 := B5.trans (But.of_below b6)
        have k6 := k5.below b6 k5.lt
        have s6 := s5.below b6
        have own6 := owns_keep own5 b6
        have map6 := hP5.below b6 hP5.lt
        have kV6 := kV5.below b6 kV5.lt
        have kG6 := kG5.below b6 kG5.lt
        have g3 := (k6.cell 3).trans rfl
        have gv := (kV6.cell 1).trans rfl
        have zc6 := k6.lt
        have zv6 := kV6.lt
        have zm6 := map6.lt
        have hsz6 : w.heap.size + 1 < w6.heap.size := kG6.lt
        clear k5 s5 own5 hP5 kV5 kG5 b6 zc5 zv5 B5
        cases Z with
        | true =>
          have H9 : CntAt w6 base cb mb sa sc x ht (m ++ [⟨h, r, s, has, bl, f⟩]) (.slice ra rs.length rc) rs := ⟨k6, s6, map6, own6⟩
          have y0 := (kG6.cell 0).trans rfl
          have y1 := (kG6.cell 1).trans rfl
          have y2 := (kG6.cell 2).trans rfl
          have y3 := (kG6.cell 3).trans rfl
          have y4 := (kG6.cell 4).trans rfl
          have y5 := (kG6.cell 5).trans rfl
          have y6 := (kG6.cell 6).trans rfl
          have y7 := (kG6.cell 7).trans rfl
          have y8 := (kG6.cell 8).trans rfl
          have y9 := (kG6.cell 9).trans rfl
          have y10 := (kG6.cell 10).trans rfl
          have y11 := (kG6.cell 11).trans rfl
          have q0 := kG6.frozen 0
          have q1 := kG6.frozen 1
          have q2 := kG6.frozen 2
          have q3 := kG6.frozen 3
          have q4 := kG6.frozen 4
          have q5 := kG6.frozen 5
          have q6 := kG6.frozen 6
          have q7 := kG6.frozen 7
          have q8 := kG6.frozen 8
          have q9 := kG6.frozen 9
          have q10 := kG6.frozen 10
          have q11 := kG6.frozen 11
          have zg9 := kG6.lt
          go_wp2
          refine bodyPost_ret (v := .tuple #[.agg #[.int .i64 0, .int .i64 0, .int .i64 0, .bool false, .int .u64 0, .int .i64 0, .int .i64 0, .int .i64 0, .int .i64 0, .bool false, .int .u64 0, .int .i64 0], .int .i64 0]) (by simp [results, Try.results6, go_sem, y0, y1, y2, y3, y4, y5, y6, y7, y8, y9, y10, y11]) rfl ?_
          have bF : But (fun k => k = w.heap.size + 1) w6 _ := but12 w6 (w.heap.size + 1)
          refine .inr ⟨rfl, .inr (.inr ⟨HO.out, rfl, _, _, H9.but bF (by omega) (by omega) (fun a ha => by have := (hsa a ha).2.2.2; omega) (fun g e => by have h1 := (H.rounds.lt g e).2; omega), But.trans_new B6 bF (fun k hk e => by omega), ?_, (by rw [if_pos HZ.out])⟩)⟩
          exact .inl rfl
        | false =>
          have hvr : (Value.slice ra rs.length rc).ownBlock ≠ some w.heap.size := fun e => by have h1 := (H.rounds.lt _ e).2; omega
          go_upto_region 12 with fail
          have hH : w6.drew.cell? ⟨cb, 3, none⟩ = some (.slice ra rs.length rc) ∧ w6.drew.cell? ⟨w.heap.size, 1, none⟩ = some (.int .i64 r) := ⟨g3, gv⟩
          refine wp_region_late (fun w' => w'.cell? ⟨cb, 3, none⟩ = some (.slice ra rs.length rc) ∧ w'.cell? ⟨w.heap.size, 1, none⟩ = some (.int .i64 r)) 12 (by kernel_rfl) ?_
          refine wpAnyM_pure (i := 0) (v := ?_) rfl (by kernel_rfl) (by kernel_rfl) (by kernel_rfl) (by decide) (fun _ _ _ h => h) (Or.inl ⟨by kernel_rfl, ?_⟩) (by assumption) ?_
          rotate_left
          · intro w' _
            go_simp
            first | (with_reducible rfl) | done | assumption | skip
          simp only [Act.put, List.getElem_toArray, List.getElem_cons_succ, List.getElem_cons_zero, List.setIfInBounds_toArray, List.set_cons_zero, List.set_cons_succ]
          refine wpAnyM_pure (i := 1) (v := ?_) rfl (by kernel_rfl) (by kernel_rfl) (by kernel_rfl) (by decide) (fun _ _ _ h => h) (Or.inl ⟨by kernel_rfl, ?_⟩) (by assumption) ?_
          rotate_left
          · intro w' _
            go_simp
            first | (with_reducible rfl) | done | assumption | skip
          simp only [Act.put, List.getElem_toArray, List.getElem_cons_succ, List.getElem_cons_zero, List.setIfInBounds_toArray, List.set_cons_zero, List.set_cons_succ]
          refine wpAnyM_pure (i := 2) (v := ?_) rfl (by kernel_rfl) (by kernel_rfl) (by kernel_rfl) (by decide) (fun _ _ _ h => h) (Or.inl ⟨by kernel_rfl, ?_⟩) (by assumption) ?_
          rotate_left
          · intro w' _
            go_simp
            first | (with_reducible rfl) | done | assumption | skip
          simp only [Act.put, List.getElem_toArray, List.getElem_cons_succ, List.getElem_cons_zero, List.setIfInBounds_toArray, List.set_cons_zero, List.set_cons_succ]
          refine wpAnyM_pure (i := 3) (v := ?_) rfl (by kernel_rfl) (by kernel_rfl) (by kernel_rfl) (by decide) (fun _ _ _ h => h) (Or.inl ⟨by kernel_rfl, ?_⟩) (by assumption) ?_
          rotate_left
          · intro w' _
            go_simp
            first | (with_reducible rfl) | done | assumption | skip
          simp only [Act.put, List.getElem_toArray, List.getElem_cons_succ, List.getElem_cons_zero, List.setIfInBounds_toArray, List.set_cons_zero, List.set_cons_succ]
          refine wpAnyM_take (i := 4) (v := ?_) rfl (by kernel_rfl) (by kernel_rfl) (by kernel_rfl) (by kernel_rfl) (by decide) (by kernel_rfl) (fun _ _ _ h => h) (Or.inl ⟨by kernel_rfl, ?_⟩) (by assumption) ?_
          rotate_left
          · intro w' hSw
            have e3 := hSw.1
            have ev := hSw.2
            go_simp
            first | (with_reducible rfl) | done | assumption | skip
          simp only [Act.put, List.getElem_toArray, List.getElem_cons_succ, List.getElem_cons_zero, List.setIfInBounds_toArray, List.set_cons_zero, List.set_cons_succ]
          refine wpAnyM_pure (i := 5) (v := ?_) rfl (by kernel_rfl) (by kernel_rfl) (by kernel_rfl) (by decide) (fun _ _ _ h => h) (Or.inl ⟨by kernel_rfl, ?_⟩) (by assumption) ?_
          rotate_left
          · intro w' _
            go_simp
            first | (with_reducible rfl) | done | assumption | skip
          simp only [Act.put, List.getElem_toArray, List.getElem_cons_succ, List.getElem_cons_zero, List.setIfInBounds_toArray, List.set_cons_zero, List.set_cons_succ]
          refine wpAnyM_pure (i := 6) (v := ?_) rfl (by kernel_rfl) (by kernel_rfl) (by kernel_rfl) (by decide) (fun _ _ _ h => h) (Or.inl ⟨by kernel_rfl, ?_⟩) (by assumption) ?_
          rotate_left
          · intro w' _
            go_simp
            first | (with_reducible rfl) | done | assumption | skip
          simp only [Act.put, List.getElem_toArray, List.getElem_cons_succ, List.getElem_cons_zero, List.setIfInBounds_toArray, List.set_cons_zero, List.set_cons_succ]
          refine wpAnyM_take (i := 7) (v := ?_) rfl (by kernel_rfl) (by kernel_rfl) (by kernel_rfl) (by kernel_rfl) (by decide) (by kernel_rfl) (fun _ _ _ h => h) (Or.inl ⟨by kernel_rfl, ?_⟩) (by assumption) ?_
          rotate_left
          · intro w' hSw
            have e3 := hSw.1
            have ev := hSw.2
            go_simp
            first | (with_reducible rfl) | done | assumption | skip
          simp only [Act.put, List.getElem_toArray, List.getElem_cons_succ, List.getElem_cons_zero, List.setIfInBounds_toArray, List.set_cons_zero, List.set_cons_succ]
          refine wpAnyM_one (i := 8) (by kernel_rfl) ?_
          refine wpOp_step rfl (fun K hK => ?_)
          go_simp
          have b7 : Below w6.heap.size w6 (w6.alloc (.cells #[.int .i64 r] 3)).drew := ((Below.refl _ _).alloc (Nat.le_refl _) _).drew
          have kI : Blk (w6.alloc (.cells #[.int .i64 r] 3)).drew w6.heap.size #[.int .i64 r] 3 := (Blk.new w6 _ _).drew
          have own7 : (w6.alloc (.cells #[.int .i64 r] 3)).drew.ownsRow base 3 1 (.slice ra rs.length rc) rs.length (flatI rs) := (own6.alloc _).drew
          have hH7 : (w6.alloc (.cells #[.int .i64 r] 3)).drew.cell? ⟨cb, 3, none⟩ = some (.slice ra rs.length rc) ∧ (w6.alloc (.cells #[.int .i64 r] 3)).drew.cell? ⟨w.heap.size, 1, none⟩ = some (.int .i64 r) := ⟨(b7.cell (p := ⟨cb, 3, none⟩) zc6).trans g3, (b7.cell (p := ⟨w.heap.size, 1, none⟩) zv6).trans gv⟩
          refine hK _ _ ⟨fun _ => (by with_reducible exact hH7), ?_⟩
          clear hK K
          try simp only [Act.put, List.getElem_toArray, List.getElem_cons_succ, List.getElem_cons_zero, List.setIfInBounds_toArray, List.set_cons_zero, List.set_cons_succ]
          refine wpAnyM_one (i := 9) (by kernel_rfl) ?_
          refine wpOp_step rfl (fun K hK => ?_)
          go_simp
          generalize (w6.alloc (.cells #[.int .i64 r] 3)).drew = w7 at *
          refine (ins_any base (.slice ra rs.length rc) rs n r w6.heap.size w7 own7 hnl (by omega) kI (fun e => by have := (own6.lt _ e).2; omega) (by have := b7.size; omega)).mono ?_
          rintro e w8 ⟨v8, rfl, o8, g8, hat8⟩
          obtain ⟨ea, ec, hv8⟩ := own_slice o8
          subst hv8
          have hH8 : w8.cell? ⟨cb, 3, none⟩ = some (.slice ra rs.length rc) ∧ w8.cell? ⟨w.heap.size, 1, none⟩ = some (.int .i64 r) := ⟨(cell_grown g8 (p := ⟨cb, 3, none⟩) (Nat.lt_of_lt_of_le zc6 b7.size) hcr).trans hH7.1, (cell_grown g8 (p := ⟨w.heap.size, 1, none⟩) (Nat.lt_of_lt_of_le zv6 b7.size) hvr).trans hH7.2⟩
          refine hK _ _ ⟨fun _ => hH8, ?_⟩
          clear hK K
          try simp only [Act.put, List.getElem_toArray, List.getElem_cons_succ, List.getElem_cons_zero, List.setIfInBounds_toArray, List.set_cons_zero, List.set_cons_succ]
          refine wpAnyM_pure (i := 10) (v := ?_) rfl (by kernel_rfl) (by kernel_rfl) (by kernel_rfl) (by decide) (fun _ _ _ h => h) (Or.inl ⟨by kernel_rfl, ?_⟩) (by assumption) ?_
          rotate_left
          · intro w' _
            go_simp
            first | (with_reducible rfl) | done | assumption | skip
          simp only [Act.put, List.getElem_toArray, List.getElem_cons_succ, List.getElem_cons_zero, List.setIfInBounds_toArray, List.set_cons_zero, List.set_cons_succ]
          refine wpAnyM_pure (i := 11) (v := ?_) rfl (by kernel_rfl) (by kernel_rfl) (by kernel_rfl) (by decide) (fun _ _ _ h => h) (Or.inl ⟨by kernel_rfl, ?_⟩) (by assumption) ?_
          rotate_left
          · intro w' _
            go_simp
            first | (with_reducible rfl) | done | assumption | skip
          simp only [Act.put, List.getElem_toArray, List.getElem_cons_succ, List.getElem_cons_zero, List.setIfInBounds_toArray, List.set_cons_zero, List.set_cons_succ]
          have b8 : But (fun k => k = cb ∨ k = mb ∨ (Value.slice ra rs.length rc).ownBlock = some k) w6 w8 := (But.of_below b7).trans (But.of_grown g8 (fun k e => .inr (.inr e)))
          have k8 : Blk w8 cb #[.slice sa x.length sc, .int .i64 ht, .map (some mb), .slice ra rs.length rc] 56 := (k6.below b7 k6.lt).grown g8 (fun e => hcr e)
          have f8 := k8.frozen 3
          have x8 := (k8.cell 3).trans rfl
          have zk8 := k8.lt
          refine wpAnyM_one (i := 12) (by kernel_rfl) ?_
          refine wpOp_step rfl (fun K hK => ?_)
          go_simp
          refine hK _ _ ⟨fun h => absurd h (by decide), ?_⟩
          clear hK K
          refine wpAnyM_done (by kernel_rfl) ?_ _
          try simp only [Exit.then]
          have k9 := k8.set 3 (.slice ea (rs.length + 1) ec)
          have hnb : ∀ k, (Value.slice ra rs.length rc).ownBlock = some k → k < w.heap.size := fun k e => (H.rounds.lt k e).2
          have hown8 : ∀ g, (Value.slice ea (rs.length + 1) ec).ownBlock = some g → g ≠ cb ∧ g ≠ mb ∧ g ≠ w.heap.size + 1 := fun g e => by
            rcases hat8 with q | q
            · rw [q] at e
              exact ⟨fun h => hcr (by rw [e, h]), fun h => hmr (by rw [e, h]), by have := hnb g e; omega⟩
            · rw [q] at e
              have := Option.some.inj e
              have := b7.size
              omega
          have bc : But (fun k => k = cb) w8 (w8.setCell ⟨cb, 3, none⟩ (.slice ea (rs.length + 1) ec)) := But.at w8 cb 3 _
          have s9 := bc.seats ((b8).seats s6 (fun a ha q => by rcases q with q | q | q; exact (hsa a ha).1 q; exact (hsa a ha).2.1 q; exact (hsa a ha).2.2.1 q)) (fun a ha => (hsa a ha).1)
          have bg : But (fun k => (Value.slice ra rs.length rc).ownBlock = some k) w6 w8 := (But.of_below b7).trans (But.of_grown g8 (fun k e => e))
          have m9 := bc.map (bg.map map6 hmr) (fun e => hcm e.symm)
          have o9 := bc.owns o8 (fun g e => (hown8 g e).1)
          have kG9 := bc.blk (bg.blk kG6 (fun e => by have := hnb _ e; omega)) (by omega)
          have hil := insAt_len rs n r hnl
          have H9 : CntAt (w8.setCell ⟨cb, 3, none⟩ (.slice ea (rs.length + 1) ec)) base cb mb sa sc x ht (m ++ [⟨h, r, s, has, bl, f⟩]) (.slice ea (rs.length + 1) ec) (insAt rs n r) := ⟨k9, s9, m9, by rw [hil]; exact o9⟩
          have B9 := B6.trans (b8.trans (bc.mono (fun k e => Or.inl e)))
          have HAT : (Value.slice ea (rs.length + 1) ec).ownBlock = (Value.slice ra rs.length rc).ownBlock ∨ ∃ g, (Value.slice ea (rs.length + 1) ec).ownBlock = some g ∧ w.heap.size ≤ g := hat8.imp id (fun q => ⟨_, q, by have := b7.size; omega⟩)
          clear hH hH7 hH8 k8 f8 x8 zk8 k6 s6 own6 map6 kG6 kV6 g3 gv b8 bg bc s9 m9 o9 k9 kI own7 o8 g8
          generalize (w8.setCell ⟨cb, 3, none⟩ (.slice ea (rs.length + 1) ec)) = w9 at *
          have y0 := (kG9.cell 0).trans rfl
          have y1 := (kG9.cell 1).trans rfl
          have y2 := (kG9.cell 2).trans rfl
          have y3 := (kG9.cell 3).trans rfl
          have y4 := (kG9.cell 4).trans rfl
          have y5 := (kG9.cell 5).trans rfl
          have y6 := (kG9.cell 6).trans rfl
          have y7 := (kG9.cell 7).trans rfl
          have y8 := (kG9.cell 8).trans rfl
          have y9 := (kG9.cell 9).trans rfl
          have y10 := (kG9.cell 10).trans rfl
          have y11 := (kG9.cell 11).trans rfl
          have q0 := kG9.frozen 0
          have q1 := kG9.frozen 1
          have q2 := kG9.frozen 2
          have q3 := kG9.frozen 3
          have q4 := kG9.frozen 4
          have q5 := kG9.frozen 5
          have q6 := kG9.frozen 6
          have q7 := kG9.frozen 7
          have q8 := kG9.frozen 8
          have q9 := kG9.frozen 9
          have q10 := kG9.frozen 10
          have q11 := kG9.frozen 11
          have zg9 := kG9.lt
          go_wp2
          refine bodyPost_ret (v := .tuple #[.agg #[.int .i64 0, .int .i64 0, .int .i64 0, .bool false, .int .u64 0, .int .i64 0, .int .i64 0, .int .i64 0, .int .i64 0, .bool false, .int .u64 0, .int .i64 0], .int .i64 0]) (by simp [results, Try.results6, go_sem, y0, y1, y2, y3, y4, y5, y6, y7, y8, y9, y10, y11]) rfl ?_
          have bF : But (fun k => k = w.heap.size + 1) w9 _ := but12 w9 (w.heap.size + 1)
          refine .inr ⟨rfl, .inr (.inr ⟨HO.out, rfl, _, _, H9.but bF (by omega) (by omega) (fun a ha => by have := (hsa a ha).2.2.2; omega) (fun g e => (hown8 g e).2.2), But.trans_new B9 bF (fun k hk e => by omega), ?_, (by rw [if_neg (by rw [HZ.out]; simp), HN.out])⟩)⟩
          exact HAT
end Go.Proofs.Ytimcddknoanghaa
