/- What a quorum voted for: the program's. -/
import Derived.Test.YtimcddknoanghaaKAny
namespace Go.Proofs.Ytimcddknoanghaa
open Go.RowKit Go.Maps
set_option linter.unusedVariables false
set_option linter.unusedSimpArgs false

/-- Those for the same are a quorum. -/
def leads (x : List (Int × Int)) (A : List Vt) (v : Vt) : Bool := decide (2 * totP x < 3 * wtP x ((alikeP A v).map Vt.f))
/-- The first of A that leads, at a stage that decides. -/
def leadO (x : List (Int × Int)) (A : List Vt) (s : Int) : Option Vt := if s = 1 ∨ s = 2 then A.find? (leads x A) else none
/-- What Lead gives. -/
def LeadE (base : Nat) (ht r s : Int) (A : List Vt) (o : Option Vt) (e : Ending) (w' : World) : Prop :=
  match o with
  | some v => ∃ fv, e = .returned (.tuple #[.agg #[.int .i64 ht, .int .i64 r, .int .i64 s, .bool v.has, .int .u64 v.bl, fv], .bool true]) ∧ w'.ownsRow base 3 1 fv ((alikeP A v).map Vt.f).length (flatI ((alikeP A v).map Vt.f))
  | none => e = .returned (.tuple #[.agg #[.int .i64 0, .int .i64 0, .int .i64 0, .bool false, .int .u64 0, .slice none 0 0], .bool false])
theorem find_take {α : Type} (p : α → Bool) (l : List α) {i : Nat} (hi : i < l.length) (h : ∀ y ∈ l.take i, p y = false) (hp : p l[i] = true) : l.find? p = some l[i] := by
  have e : l = l.take i ++ l[i] :: l.drop (i + 1) := by rw [← List.drop_eq_getElem_cons hi, List.take_append_drop]
  generalize l[i] = z at *
  rw [e, List.find?_append, List.find?_eq_none.2 (fun y hy => by rw [h y hy]; simp), List.find?_cons_of_pos hp]
  rfl

/-- As it was, but for one block. -/
def Off (b : Nat) (w w' : World) : Prop := ∀ p : Addr, p.block ≠ b → w'.cell? p = w.cell? p
theorem Off.refl (b : Nat) (w : World) : Off b w w := fun _ _ => rfl
theorem Off.drew {b : Nat} {w w' : World} (h : Off b w w') : Off b w w'.drew := h
theorem Off.set {b : Nat} {w w' : World} (h : Off b w w') {p : Addr} (hp : p.block = b) (v : Value) : Off b w (w'.setCell p v) := fun q hq => by
  rw [World.cell?_setCell_far _ _ _ _ (by rw [hp]; first | exact hq | exact fun e => hq e.symm)]; exact h q hq

def sixW (w : World) (b : Nat) (v0 v1 v2 v3 v4 v5 : Value) : World := ((((((w.setCell ⟨b, 0, none⟩ v0).setCell ⟨b, 1, none⟩ v1).setCell ⟨b, 2, none⟩ v2).setCell ⟨b, 3, none⟩ v3).setCell ⟨b, 4, none⟩ v4).setCell ⟨b, 5, none⟩ v5)
theorem blk_six {w : World} {b : Nat} {a0 a1 a2 a3 a4 a5 : Value} {t : TypeId} (k : Blk w b #[a0, a1, a2, a3, a4, a5] t) (v0 v1 v2 v3 v4 v5 : Value) : Blk (sixW w b v0 v1 v2 v3 v4 v5).drew b #[v0, v1, v2, v3, v4, v5] t :=
  ((((((k.set 0 v0).set 1 v1).set 2 v2).set 3 v3).set 4 v4).set 5 v5).drew
theorem bel_six {w0 w : World} {B : Nat} (h : Below B w0 w) {b : Nat} (hb : B ≤ b) (v0 v1 v2 v3 v4 v5 : Value) : Below B w0 (sixW w b v0 v1 v2 v3 v4 v5).drew :=
  ((((((h.setCell hb v0).setCell hb v1).setCell hb v2).setCell hb v3).setCell hb v4).setCell hb v5).drew
theorem off_six {b : Nat} {w0 w : World} (h : Off b w0 w) (v0 v1 v2 v3 v4 v5 : Value) : Off b w0 (sixW w b v0 v1 v2 v3 v4 v5).drew :=
  ((((((h.set rfl v0).set rfl v1).set rfl v2).set rfl v3).set rfl v4).set rfl v5).drew
theorem own_six {w : World} {b base : Nat} {e : TypeId} {size : Nat} {v : Value} {n : Nat} {xs : List Value} (h : w.ownsRow base e size v n xs) (hb : b < base) (v0 v1 v2 v3 v4 v5 : Value) : (sixW w b v0 v1 v2 v3 v4 v5).drew.ownsRow base e size v n xs :=
  (ownsRow_setCell_below (ownsRow_setCell_below (ownsRow_setCell_below (ownsRow_setCell_below (ownsRow_setCell_below (ownsRow_setCell_below h (a := ⟨b, 0, none⟩) hb v0) (a := ⟨b, 1, none⟩) hb v1) (a := ⟨b, 2, none⟩) hb v2) (a := ⟨b, 3, none⟩) hb v3) (a := ⟨b, 4, none⟩) hb v4) (a := ⟨b, 5, none⟩) hb v5).drew

set_option maxRecDepth 8000 in
set_option maxHeartbeats 3200000 in
theorem lead_any (base cb mb : Nat) (sa : Option Addr) (sc : Nat) (x : List (Int × Int)) (ht : Int) (m : List Vt) (rv : Value) (rs : List Int) (r s : Int) (w : World) (H : CntAt w base cb mb sa sc x ht m rv rs) (hx : x.length ≤ 64) (hxi : ∀ z ∈ x, -9223372036854775808 ≤ z.1 ∧ z.1 ≤ 9223372036854775807) (hw : ∀ z ∈ x, 0 ≤ z.2 ∧ z.2 ≤ 1099511627775)
    (hr : -9223372036854775808 ≤ r ∧ r ≤ 9223372036854775807) (hs : -9223372036854775808 ≤ s ∧ s ≤ 9223372036854775807) :
    Calls Try.prog 13 #[.pointer (some ⟨cb, 0, none⟩), .int .i64 r, .int .i64 s] w fun e w' => LeadE w.heap.size ht r s (atP m x r s) (leadO x (atP m x r s) s) e w' ∧ Below w.heap.size w w' := by
  have hal := atP_len m x r s
  have KA : ∀ w', Below w.heap.size w w' → Calls Try.prog 32 #[.pointer (some ⟨cb, 0, none⟩), .int .i64 r, .int .i64 s] w' fun e w'' => (∃ v, e = .returned v ∧ w''.ownsRow w'.heap.size 34 6 v (atP m x r s).length (flatV (atP m x r s))) ∧ Below w'.heap.size w' w'' := fun w' hb => at_any base cb mb sa sc x ht m rv rs r s w' (H.below hb) hx hxi hr hs
  generalize atP m x r s = A at *
  have kR := Blk.new w #[.int .i64 0, .int .i64 0, .int .i64 0, .bool false, .int .u64 0, .slice none 0 0] 42
  have bR : Below w.heap.size w (w.alloc (.cells #[.int .i64 0, .int .i64 0, .int .i64 0, .bool false, .int .u64 0, .slice none 0 0] 42)) := (Below.refl _ _).alloc (Nat.le_refl _) _
  by_cases hst : s = 1 ∨ s = 2
  rotate_left
  · have n1 : (s != 1) = true := by simp; exact fun e => hst (.inl e)
    have n2 : (s != 2) = true := by simp; exact fun e => hst (.inr e)
    have hlo : leadO x A s = none := if_neg hst
    rw [hlo]
    unfold LeadE
    clear hst hlo H KA
    go_enter Try.func13, Try.ntmps13
    have y0 := (kR.cell 0).trans rfl
    have y1 := (kR.cell 1).trans rfl
    have y2 := (kR.cell 2).trans rfl
    have y3 := (kR.cell 3).trans rfl
    have y4 := (kR.cell 4).trans rfl
    have y5 := (kR.cell 5).trans rfl
    go_wp2
    refine bodyPost_ret (v := .tuple #[.agg #[.int .i64 0, .int .i64 0, .int .i64 0, .bool false, .int .u64 0, .slice none 0 0], .bool false]) (by simp [results, Try.results13, go_sem, y0, y1, y2, y3, y4, y5]) rfl ?_
    exact ⟨rfl, bR⟩
  · have hlo : leadO x A s = A.find? (leads x A) := if_pos hst
    rw [hlo]
    clear hlo
    have C0 : ∀ w', Below w.heap.size w w' → w'.cell? ⟨cb, 0, none⟩ = some (.slice sa x.length sc) := fun w' hb => ((H.below hb).k.cell 0).trans rfl
    have C1 : ∀ w', Below w.heap.size w w' → w'.cell? ⟨cb, 1, none⟩ = some (.int .i64 ht) := fun w' hb => ((H.below hb).k.cell 1).trans rfl
    have zC : ∀ w', Below w.heap.size w w' → cb < w'.heap.size := fun w' hb => (H.below hb).k.lt
    have HS : ∀ w', Below w.heap.size w w' → SeatsAt w' sa x := fun w' hb => (H.below hb).seats
    have zcb := H.k.lt
    clear H
    go_enter Try.func13, Try.ntmps13
    have hcs : (s != 1) = false ∨ ((s != 1) = true ∧ (s != 2) = false) := by rcases hst with rfl | rfl <;> simp
    clear hst
    rcases hcs with n1 | ⟨n1, n2⟩
    all_goals
      go_wp2_with fail
      refine (KA _ bR).mono ?_
      rintro e w1 ⟨⟨v1, rfl, o1⟩, b1⟩
      obtain ⟨la, ca, rfl, s1⟩ := VotesAt.of_owns o1
      have B1 := bR.trans (b1.mono bR.size)
      have k1 := kR.below b1 kR.lt
      clear KA b1 o1 kR bR hs
      go_wp2_with fail
      go_loopw [25] (fun iv wv => ∃ i : Nat, i ≤ A.length ∧ iv = .int .i64 i ∧ Hid (∀ y ∈ A.take i, leads x A y = false) ∧ Below w1.heap.size w1 wv) (fun iv _ => A.length - (intOf iv).toNat)
      case atStart => exact ⟨0, Nat.zero_le _, rfl, by intro y hy; simp at hy, Below.refl _ _⟩
      case round =>
        obtain ⟨i, hi, rfl, HF, hb⟩ := hrel
        have hB := B1.trans (hb.mono B1.size)
        have kb := k1.below hb k1.lt
        by_cases hlt : i < A.length
        · have hlt' : (i : Int) < (A.length : Int) := by omega
          obtain ⟨b1, o1, e1, z1, c0, c1, c2, c3, c4, c5⟩ := (s1.below hb).one hlt
          subst e1
          have HFt := find_take (leads x A) A hlt HF.out
          have htk := List.take_succ_eq_append_getElem hlt
          have hmem := List.getElem_mem hlt
          generalize A[i] = y at *
          have KL := fun w' (h : VotesAt w' (some ⟨b1, o1, none⟩) A) => alike_any (some ⟨b1, o1, none⟩) ca A y w' (by omega) h
          obtain ⟨yh, yr, ys, yhas, ybl, yf⟩ := y
          simp only at c0 c1 c2 c3 c4 c5 KL
          have bV : Below wr.heap.size wr (wr.alloc (.cells #[.int .i64 yh, .int .i64 yr, .int .i64 ys, .bool yhas, .int .u64 ybl, .int .i64 yf] 34)) := (Below.refl _ _).alloc (Nat.le_refl _) _
          have kV := Blk.new wr #[.int .i64 yh, .int .i64 yr, .int .i64 ys, .bool yhas, .int .u64 ybl, .int .i64 yf] 34
          have hlea : ∀ z, leads x A ⟨yh, yr, ys, yhas, ybl, yf⟩ = z → decide (2 * totP x < 3 * wtP x ((alikeP A ⟨yh, yr, ys, yhas, ybl, yf⟩).map Vt.f)) = z := fun z h => h
          have hll : (alikeP A ⟨yh, yr, ys, yhas, ybl, yf⟩).length ≤ A.length := List.length_filter_le _ _
          obtain ⟨M, hM⟩ : ∃ M, alikeP A ⟨yh, yr, ys, yhas, ybl, yf⟩ = M := ⟨_, rfl⟩
          rw [hM] at hll hlea
          simp only [hM] at KL
          have HM := show Hid (_ = _) from hM
          clear hM
          go_wp2_with fail
          refine (KL _ ((s1.below hb).below bV)).mono ?_
          rintro e w2 ⟨⟨v2, rfl, o2⟩, b2⟩
          obtain ⟨ma, mc, rfl, s2⟩ := VotesAt.of_owns o2
          have bV2 := bV.trans (b2.mono bV.size)
          have kV2 := kV.below b2 kV.lt
          clear o2 KL bV kV b2 c0 c1 c2 c3 c4 c5
          obtain ⟨Z, hZ⟩ : ∃ Z, leads x A ⟨yh, yr, ys, yhas, ybl, yf⟩ = Z := ⟨_, rfl⟩
          rw [hZ] at HFt
          have hlea := hlea Z hZ
          have HZ := show Hid (_ = _) from hZ
          have HTK := show Hid (_ = _) from htk
          have HFD := show Hid (_) from HFt
          clear hZ htk HFt
          have KV := voters_any ma mc M w2 (by omega) s2
          have hml : (M.map Vt.f).length ≤ 64 := by rw [List.length_map]; omega
          obtain ⟨Fs, hFs⟩ : ∃ Fs, M.map Vt.f = Fs := ⟨_, rfl⟩
          rw [hFs] at KV hml hlea
          have HFs := show Hid (_ = _) from hFs
          clear hFs s2
          go_wp2_with fail
          refine KV.mono ?_
          rintro e w3 ⟨⟨v3, rfl, o3⟩, b3⟩
          have o3b := owns_base o3 (show w.heap.size + 1 ≤ w2.heap.size by have h1 := k1.lt; have h2 := hb.size; have h3 := bV2.size; omega)
          obtain ⟨na, nc, rfl, s3⟩ := IntsAt.of_owns o3
          have bV3 := bV2.trans (b3.mono bV2.size)
          have kV3 := kV2.below b3 kV2.lt
          have B3 := hB.trans (bV3.mono hB.size)
          have g0 := C0 _ B3
          have zg := zC _ B3
          clear KV o3 b3 bV2 kV2
          have KQ := quorum_any sa na sc nc x Fs w3 hx (by unfold maxLen; omega) hw (HS _ B3) s3
          rw [hlea] at KQ
          clear hlea
          go_wp2_with fail
          refine KQ.mono ?_
          rintro e w4 ⟨rfl, b4⟩
          have bV4 := bV3.trans (b4.mono bV3.size)
          have hb4 := hb.trans (bV4.mono hb.size)
          have B4 := B1.trans (hb4.mono B1.size)
          have kV4 := kV3.below b4 kV3.lt
          have k4 := k1.below hb4 k1.lt
          have own4 := owns_keep o3b b4
          clear g0 zg bV3 kV3 b4 s3 o3b B3 kb KQ
          cases Z with
          | false =>
            have HN : Hid (∀ y ∈ A.take (i + 1), leads x A y = false) := by
              intro y hy
              rw [HTK.out] at hy
              rcases List.mem_append.1 hy with hy | hy
              · exact HF.out y hy
              · rw [List.mem_singleton.1 hy]; exact HZ.out
            clear HTK HFD HM HFs
            go_wp2
            exact ⟨⟨i + 1, by omega, by go_num, HN, hb4⟩, by simp [intOf]; omega⟩
          | true =>
            have HR := HFD.out rfl
            have HRR := show Hid (_ = _) from HR
            clear HR HFD HTK HF HZ
            have h1 := C1 _ B4
            have g3 := (kV4.cell 3).trans rfl
            have g4 := (kV4.cell 4).trans rfl
            have zc4 := zC _ B4
            have zv := kV4.lt
            have y0 := (k4.cell 0).trans rfl
            have y1 := (k4.cell 1).trans rfl
            have y2 := (k4.cell 2).trans rfl
            have y3 := (k4.cell 3).trans rfl
            have y4 := (k4.cell 4).trans rfl
            have y5 := (k4.cell 5).trans rfl
            have q0 := k4.frozen 0
            have q1 := k4.frozen 1
            have q2 := k4.frozen 2
            have q3 := k4.frozen 3
            have q4 := k4.frozen 4
            have q5 := k4.frozen 5
            have zb := k4.lt
            have hvw : w.heap.size < wr.heap.size := by have := hB.size; have := k1.lt; have := hb.size; omega
            generalize wr.heap.size = vb at *
            clear hB hb hb4 bV4 C0 C1 zC HS s1 k1 B1 kV4 zv
            go_upto_region 9 with fail
            have D1 : ∀ w', Off w.heap.size w4 w' → w'.cell? ⟨cb, 1, none⟩ = some (.int .i64 ht) := fun w' h => (h ⟨cb, 1, none⟩ (by simp; omega)).trans h1
            have D3 : ∀ w', Off w.heap.size w4 w' → w'.cell? ⟨vb, 3, none⟩ = some (.bool yhas) := fun w' h => (h ⟨vb, 3, none⟩ (by simp; omega)).trans g3
            have D4 : ∀ w', Off w.heap.size w4 w' → w'.cell? ⟨vb, 4, none⟩ = some (.int .u64 ybl) := fun w' h => (h ⟨vb, 4, none⟩ (by simp; omega)).trans g4
            have of := Off.refl w.heap.size w4
            clear h1 g3 g4
            have of0 : Off w.heap.size w4 w4.drew := of.drew
            refine wp_region_held (S := fun w' => Off w.heap.size w4 w') (by kernel_rfl) ?_
            refine wpAnyH_take (i := 0) (v := ?_) rfl (by kernel_rfl) (by kernel_rfl) (by kernel_rfl) (fun _ _ _ h => h) (Or.inl ⟨by kernel_rfl, ?_⟩) (by assumption) ?_
            rotate_left
            · intro w' hSw
              have e1 := D1 _ hSw
              have e3 := D3 _ hSw
              have e4 := D4 _ hSw
              go_simp
              first | (with_reducible rfl) | done | assumption | skip
            simp only [Act.put, List.getElem_toArray, List.getElem_cons_succ, List.getElem_cons_zero, List.setIfInBounds_toArray, List.set_cons_zero, List.set_cons_succ]
            refine wpAnyH_take (i := 1) (v := ?_) rfl (by kernel_rfl) (by kernel_rfl) (by kernel_rfl) (fun _ _ _ h => h) (Or.inl ⟨by kernel_rfl, ?_⟩) (by assumption) ?_
            rotate_left
            · intro w' hSw
              have e1 := D1 _ hSw
              have e3 := D3 _ hSw
              have e4 := D4 _ hSw
              go_simp
              first | (with_reducible rfl) | done | assumption | skip
            simp only [Act.put, List.getElem_toArray, List.getElem_cons_succ, List.getElem_cons_zero, List.setIfInBounds_toArray, List.set_cons_zero, List.set_cons_succ]
            refine wpAnyH_take (i := 2) (v := ?_) rfl (by kernel_rfl) (by kernel_rfl) (by kernel_rfl) (fun _ _ _ h => h) (Or.inl ⟨by kernel_rfl, ?_⟩) (by assumption) ?_
            rotate_left
            · intro w' hSw
              have e1 := D1 _ hSw
              have e3 := D3 _ hSw
              have e4 := D4 _ hSw
              go_simp
              first | (with_reducible rfl) | done | assumption | skip
            simp only [Act.put, List.getElem_toArray, List.getElem_cons_succ, List.getElem_cons_zero, List.setIfInBounds_toArray, List.set_cons_zero, List.set_cons_succ]
            refine wpAnyH_take (i := 3) (v := ?_) rfl (by kernel_rfl) (by kernel_rfl) (by kernel_rfl) (fun _ _ _ h => h) (Or.inl ⟨by kernel_rfl, ?_⟩) (by assumption) ?_
            rotate_left
            · intro w' hSw
              have e1 := D1 _ hSw
              have e3 := D3 _ hSw
              have e4 := D4 _ hSw
              go_simp
              first | (with_reducible rfl) | done | assumption | skip
            simp only [Act.put, List.getElem_toArray, List.getElem_cons_succ, List.getElem_cons_zero, List.setIfInBounds_toArray, List.set_cons_zero, List.set_cons_succ]
            refine wpAnyH_take (i := 4) (v := ?_) rfl (by kernel_rfl) (by kernel_rfl) (by kernel_rfl) (fun _ _ _ h => h) (Or.inl ⟨by kernel_rfl, ?_⟩) (by assumption) ?_
            rotate_left
            · intro w' hSw
              have e1 := D1 _ hSw
              have e3 := D3 _ hSw
              have e4 := D4 _ hSw
              go_simp
              first | (with_reducible rfl) | done | assumption | skip
            simp only [Act.put, List.getElem_toArray, List.getElem_cons_succ, List.getElem_cons_zero, List.setIfInBounds_toArray, List.set_cons_zero, List.set_cons_succ]
            refine wpAnyH_take (i := 5) (v := ?_) rfl (by kernel_rfl) (by kernel_rfl) (by kernel_rfl) (fun _ _ _ h => h) (Or.inl ⟨by kernel_rfl, ?_⟩) (by assumption) ?_
            rotate_left
            · intro w' hSw
              have e1 := D1 _ hSw
              have e3 := D3 _ hSw
              have e4 := D4 _ hSw
              go_simp
              first | (with_reducible rfl) | done | assumption | skip
            simp only [Act.put, List.getElem_toArray, List.getElem_cons_succ, List.getElem_cons_zero, List.setIfInBounds_toArray, List.set_cons_zero, List.set_cons_succ]
            refine wpAnyH_take (i := 6) (v := ?_) rfl (by kernel_rfl) (by kernel_rfl) (by kernel_rfl) (fun _ _ _ h => h) (Or.inl ⟨by kernel_rfl, ?_⟩) (by assumption) ?_
            rotate_left
            · intro w' hSw
              have e1 := D1 _ hSw
              have e3 := D3 _ hSw
              have e4 := D4 _ hSw
              go_simp
              first | (with_reducible rfl) | done | assumption | skip
            simp only [Act.put, List.getElem_toArray, List.getElem_cons_succ, List.getElem_cons_zero, List.setIfInBounds_toArray, List.set_cons_zero, List.set_cons_succ]
            refine wpAnyH_take (i := 7) (v := ?_) rfl (by kernel_rfl) (by kernel_rfl) (by kernel_rfl) (fun _ _ _ h => h) (Or.inl ⟨by kernel_rfl, ?_⟩) (by assumption) ?_
            rotate_left
            · intro w' hSw
              have e1 := D1 _ hSw
              have e3 := D3 _ hSw
              have e4 := D4 _ hSw
              go_simp
              first | (with_reducible rfl) | done | assumption | skip
            simp only [Act.put, List.getElem_toArray, List.getElem_cons_succ, List.getElem_cons_zero, List.setIfInBounds_toArray, List.set_cons_zero, List.set_cons_succ]
            refine wpAnyH_take (i := 8) (v := ?_) rfl (by kernel_rfl) (by kernel_rfl) (by kernel_rfl) (fun _ _ _ h => h) (Or.inl ⟨by kernel_rfl, ?_⟩) (by assumption) ?_
            rotate_left
            · intro w' hSw
              have e1 := D1 _ hSw
              have e3 := D3 _ hSw
              have e4 := D4 _ hSw
              go_simp
              first | (with_reducible rfl) | done | assumption | skip
            simp only [Act.put, List.getElem_toArray, List.getElem_cons_succ, List.getElem_cons_zero, List.setIfInBounds_toArray, List.set_cons_zero, List.set_cons_succ]
            refine wpAnyH_take (i := 9) (v := ?_) rfl (by kernel_rfl) (by kernel_rfl) (by kernel_rfl) (fun _ _ _ h => h) (Or.inl ⟨by kernel_rfl, ?_⟩) (by assumption) ?_
            rotate_left
            · intro w' hSw
              have e1 := D1 _ hSw
              have e3 := D3 _ hSw
              have e4 := D4 _ hSw
              go_simp
              first | (with_reducible rfl) | done | assumption | skip
            simp only [Act.put, List.getElem_toArray, List.getElem_cons_succ, List.getElem_cons_zero, List.setIfInBounds_toArray, List.set_cons_zero, List.set_cons_succ]
            refine wpAnyH_take (i := 10) (v := ?_) rfl (by kernel_rfl) (by kernel_rfl) (by kernel_rfl) (fun _ _ _ h => h) (Or.inl ⟨by kernel_rfl, ?_⟩) (by assumption) ?_
            rotate_left
            · intro w' hSw
              have e1 := D1 _ hSw
              have e3 := D3 _ hSw
              have e4 := D4 _ hSw
              go_simp
              first | (with_reducible rfl) | done | assumption | skip
            simp only [Act.put, List.getElem_toArray, List.getElem_cons_succ, List.getElem_cons_zero, List.setIfInBounds_toArray, List.set_cons_zero, List.set_cons_succ]
            refine wpAnyH_take (i := 11) (v := ?_) rfl (by kernel_rfl) (by kernel_rfl) (by kernel_rfl) (fun _ _ _ h => h) (Or.inl ⟨by kernel_rfl, ?_⟩) (by assumption) ?_
            rotate_left
            · intro w' hSw
              have e1 := D1 _ hSw
              have e3 := D3 _ hSw
              have e4 := D4 _ hSw
              go_simp
              first | (with_reducible rfl) | done | assumption | skip
            simp only [Act.put, List.getElem_toArray, List.getElem_cons_succ, List.getElem_cons_zero, List.setIfInBounds_toArray, List.set_cons_zero, List.set_cons_succ]
            refine wpAnyH_ready (rs := [12]) (by kernel_rfl) (by simp) ?_
            refine AllReadyH.cons rfl (fun K hK => ?_) AllReadyH.nil
            go_simp
            have k5 := blk_six k4 (.int .i64 ht) (.int .i64 r) (.int .i64 s) (.bool yhas) (.int .u64 ybl) (.slice na Fs.length nc)
            have B5 : Below w.heap.size w _ := bel_six B4 (Nat.le_refl _) (.int .i64 ht) (.int .i64 r) (.int .i64 s) (.bool yhas) (.int .u64 ybl) (.slice na Fs.length nc)
            have own5 : World.ownsRow _ (w.heap.size + 1) 3 1 (.slice na Fs.length nc) Fs.length (flatI Fs) := own_six (b := w.heap.size) own4 (by omega) (.int .i64 ht) (.int .i64 r) (.int .i64 s) (.bool yhas) (.int .u64 ybl) (.slice na Fs.length nc)
            have of5 : Off w.heap.size w4 _ := off_six of (.int .i64 ht) (.int .i64 r) (.int .i64 s) (.bool yhas) (.int .u64 ybl) (.slice na Fs.length nc)
            refine hK.out _ _ of5 (fun _ => ?_)
            clear hK K of of0 D1 D3 D4 y0 y1 y2 y3 y4 y5 q0 q1 q2 q3 q4 q5 zb k4 own4
            try simp only [Act.put, List.getElem_toArray, List.getElem_cons_succ, List.getElem_cons_zero, List.setIfInBounds_toArray, List.set_cons_zero, List.set_cons_succ]
            refine wpAnyH_take (i := 13) (v := ?_) rfl (by kernel_rfl) (by kernel_rfl) (by kernel_rfl) (fun _ _ _ h => h) (Or.inl ⟨by kernel_rfl, ?_⟩) of5 ?_
            rotate_left
            · intro w' hSw
              go_simp
              first | (with_reducible rfl) | done | assumption | skip
            simp only [Act.put, List.getElem_toArray, List.getElem_cons_succ, List.getElem_cons_zero, List.setIfInBounds_toArray, List.set_cons_zero, List.set_cons_succ]
            refine wpAnyH_done (by kernel_rfl) ?_ _
            have y0 := (k5.cell 0).trans rfl
            have y1 := (k5.cell 1).trans rfl
            have y2 := (k5.cell 2).trans rfl
            have y3 := (k5.cell 3).trans rfl
            have y4 := (k5.cell 4).trans rfl
            have y5 := (k5.cell 5).trans rfl
            unfold sixW at k5 B5 own5 y0 y1 y2 y3 y4 y5
            clear of5
            generalize ((((((w4.setCell ⟨w.heap.size, 0, none⟩ (.int .i64 ht)).setCell ⟨w.heap.size, 1, none⟩ (.int .i64 r)).setCell ⟨w.heap.size, 2, none⟩ (.int .i64 s)).setCell ⟨w.heap.size, 3, none⟩ (.bool yhas)).setCell ⟨w.heap.size, 4, none⟩ (.int .u64 ybl)).setCell ⟨w.heap.size, 5, none⟩ (.slice na Fs.length nc)).drew = w5 at *
            go_wp2
            refine bodyPost_ret (v := .tuple #[.agg #[.int .i64 ht, .int .i64 r, .int .i64 s, .bool yhas, .int .u64 ybl, .slice na Fs.length nc], .bool true]) (by simp [results, Try.results13, go_sem, y0, y1, y2, y3, y4, y5]) rfl ?_
            refine ⟨?_, B5⟩
            rw [HRR.out]
            refine ⟨_, rfl, ?_⟩
            rw [HM.out, HFs.out]
            exact owns_base own5 (by omega)
        · have hge : ¬ (i : Int) < (A.length : Int) := by omega
          have hie : i = A.length := by omega
          have hno : A.find? (leads x A) = none := by
            rw [List.find?_eq_none]
            intro y hy
            have := HF.out y (by rw [hie, List.take_length]; exact hy)
            rw [this]; simp
          have HNO := show Hid (_ = _) from hno
          clear hno hie HF
          have y0 := (kb.cell 0).trans rfl
          have y1 := (kb.cell 1).trans rfl
          have y2 := (kb.cell 2).trans rfl
          have y3 := (kb.cell 3).trans rfl
          have y4 := (kb.cell 4).trans rfl
          have y5 := (kb.cell 5).trans rfl
          have q0 := kb.frozen 0
          have q1 := kb.frozen 1
          have q2 := kb.frozen 2
          have q3 := kb.frozen 3
          have q4 := kb.frozen 4
          have q5 := kb.frozen 5
          have zb := kb.lt
          go_wp2
          refine bodyPost_ret (v := .tuple #[.agg #[.int .i64 0, .int .i64 0, .int .i64 0, .bool false, .int .u64 0, .slice none 0 0], .bool false]) (by simp [results, Try.results13, go_sem, y0, y1, y2, y3, y4, y5]) rfl ?_
          refine ⟨by rw [HNO.out]; exact rfl, ?_⟩
          iterate 6 refine Below.setCell ?_ (by show w.heap.size ≤ w.heap.size; omega) _
          exact hB
end Go.Proofs.Ytimcddknoanghaa
