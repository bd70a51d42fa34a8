/- What a quorum voted for: the answer's. -/
import Derived.Test.YtimcddknoanghaaKLead
namespace Go.Proofs.Ytimcddknoanghaa
open Go.RowKit Go.Maps
set_option linter.unusedVariables false
set_option linter.unusedSimpArgs false

/-- What is decided: a round, a stage, for which block, by whom. -/
structure Ct where
  r : Int
  s : Int
  has : Bool
  bl : Int
  fr : List Int
/-- What a function gives that tells a decision, if there is one. -/
def CertE (base : Nat) (ht : Int) (o : Option Ct) (e : Ending) (w' : World) : Prop :=
  match o with
  | some c => ∃ fa fc, e = .returned (.tuple #[.agg #[.int .i64 ht, .int .i64 c.r, .int .i64 c.s, .bool c.has, .int .u64 c.bl, .slice fa c.fr.length fc], .bool true]) ∧ IntsAt w' fa c.fr ∧ ∀ a, fa = some a → base ≤ a.block
  | none => e = .returned (.tuple #[.agg #[.int .i64 0, .int .i64 0, .int .i64 0, .bool false, .int .u64 0, .slice none 0 0], .bool false])
def leadC (x : List (Int × Int)) (A : List Vt) (r s : Int) : Option Ct := (leadO x A s).map fun v => ⟨r, s, v.has, v.bl, (alikeP A v).map Vt.f⟩
theorem owns_fresh {w : World} {base : Nat} {e : TypeId} {size : Nat} {la : Option Addr} {n cap k : Nat} {xs : List Value} (h : w.ownsRow base e size (.slice la n cap) k xs) : ∀ a, la = some a → base ≤ a.block := by
  intro a ha
  subst ha
  rcases h.2 with ⟨e, _⟩ | ⟨g, c, cur, e, hg, _⟩
  · cases e
  · cases e; exact hg
theorem lead_ct (base cb mb : Nat) (sa : Option Addr) (sc : Nat) (x : List (Int × Int)) (ht : Int) (m : List Vt) (rv : Value) (rs : List Int) (r s : Int) (w : World) (H : CntAt w base cb mb sa sc x ht m rv rs) (hx : x.length ≤ 64) (hxi : ∀ z ∈ x, -9223372036854775808 ≤ z.1 ∧ z.1 ≤ 9223372036854775807) (hw : ∀ z ∈ x, 0 ≤ z.2 ∧ z.2 ≤ 1099511627775)
    (hr : -9223372036854775808 ≤ r ∧ r ≤ 9223372036854775807) (hs : -9223372036854775808 ≤ s ∧ s ≤ 9223372036854775807) :
    Calls Try.prog 13 #[.pointer (some ⟨cb, 0, none⟩), .int .i64 r, .int .i64 s] w fun e w' => CertE w.heap.size ht (leadC x (atP m x r s) r s) e w' ∧ Below w.heap.size w w' := by
  refine (lead_any base cb mb sa sc x ht m rv rs r s w H hx hxi hw hr hs).mono ?_
  rintro e w' ⟨h, hb⟩
  refine ⟨?_, hb⟩
  unfold leadC
  cases ho : leadO x (atP m x r s) s with
  | none => rw [ho] at h; exact h
  | some v =>
    rw [ho] at h
    obtain ⟨fv, e1, h1⟩ := h
    obtain ⟨fa, fc, rfl, h2⟩ := IntsAt.of_owns h1
    exact ⟨fa, fc, e1, h2, owns_fresh h1⟩
theorem alike_len (A : List Vt) (v : Vt) : (alikeP A v).length ≤ A.length := List.length_filter_le _ _
theorem ofRS_len (L : List Vt) (r s : Int) : (ofRS L r s).length ≤ L.length := List.length_filter_le _ _
theorem find_ofRS {p : Vt → Bool} {L : List Vt} {r s : Int} {i : Nat} (hi : i < L.length) (h : ∀ y ∈ L.take i, y.r = r → y.s = s → p y = false) (hr : L[i].r = r) (hs : L[i].s = s) (hp : p L[i] = true) : (ofRS L r s).find? p = some L[i] := by
  have e : L = L.take i ++ L[i] :: L.drop (i + 1) := by rw [← List.drop_eq_getElem_cons hi, List.take_append_drop]
  generalize L[i] = z at *
  rw [e, ofRS, List.filter_append, List.find?_append, List.find?_eq_none.2 (fun y hy => by
    obtain ⟨h1, h2⟩ := List.mem_filter.1 hy
    simp only [Bool.and_eq_true, decide_eq_true_eq] at h2
    rw [h y h1 h2.1 h2.2]; simp)]
  rw [List.filter_cons_of_pos (by simp [hr, hs]), List.find?_cons_of_pos hp]
  rfl
theorem alike_snoc (T : List Vt) (z v : Vt) (r s : Int) : alikeP (ofRS (T ++ [z]) r s) v = alikeP (ofRS T r s) v ++ (if z.r = r ∧ z.s = s ∧ z.has = v.has ∧ z.bl = v.bl then [z] else []) := by
  unfold alikeP ofRS
  rw [List.filter_append, List.filter_append]
  congr 1
  by_cases h1 : z.r = r <;> by_cases h2 : z.s = s <;> by_cases h3 : z.has = v.has <;> by_cases h4 : z.bl = v.bl <;> simp [h1, h2, h3, h4]
theorem bel_six0 {w0 w : World} {B : Nat} (h : Below B w0 w) {b : Nat} (hb : B ≤ b) (v0 v1 v2 v3 v4 v5 : Value) : Below B w0 (sixW w b v0 v1 v2 v3 v4 v5) :=
  (((((h.setCell hb v0).setCell hb v1).setCell hb v2).setCell hb v3).setCell hb v4).setCell hb v5
theorem own_six0 {w : World} {b base : Nat} {e : TypeId} {size : Nat} {v : Value} {n : Nat} {xs : List Value} (h : w.ownsRow base e size v n xs) (hb : b < base) (v0 v1 v2 v3 v4 v5 : Value) : (sixW w b v0 v1 v2 v3 v4 v5).ownsRow base e size v n xs :=
  ownsRow_setCell_below (ownsRow_setCell_below (ownsRow_setCell_below (ownsRow_setCell_below (ownsRow_setCell_below (ownsRow_setCell_below h (a := ⟨b, 0, none⟩) hb v0) (a := ⟨b, 1, none⟩) hb v1) (a := ⟨b, 2, none⟩) hb v2) (a := ⟨b, 3, none⟩) hb v3) (a := ⟨b, 4, none⟩) hb v4) (a := ⟨b, 5, none⟩) hb v5
theorem ints_six {w : World} {b : Nat} {fa : Option Addr} {l : List Int} (h : IntsAt w fa l) (hb : ∀ a, fa = some a → a.block ≠ b) (v0 v1 v2 v3 v4 v5 : Value) : IntsAt (sixW w b v0 v1 v2 v3 v4 v5) fa l := by
  rcases h with h | ⟨b1, o1, e, hl, hc⟩
  · exact .inl h
  · have hne : b1 ≠ b := hb _ e
    refine .inr ⟨b1, o1, e, ?_, fun i x hx => ?_⟩
    · simp only [sixW, World.size_setCell]; exact hl
    · have hf : ∀ (k : Nat) (v : Value) (w : World), (w.setCell ⟨b, k, none⟩ v).cell? ⟨b1, o1 + i, none⟩ = w.cell? ⟨b1, o1 + i, none⟩ := fun k v w => World.cell?_setCell_far _ _ _ _ (by first | exact hne | exact fun e => hne e.symm)
      simp only [sixW, hf]
      exact hc i x hx

set_option maxRecDepth 8000 in
set_option maxHeartbeats 6400000 in
theorem rlead_any (rb : Nat) (sa : Option Addr) (sc : Nat) (x : List (Int × Int)) (ht : Int) (la : Option Addr) (lc : Nat) (L : List Vt) (r s : Int) (w : World) (H : RcAt w rb sa sc x ht la lc L) (hx : x.length ≤ 64) (hw : ∀ z ∈ x, 0 ≤ z.2 ∧ z.2 ≤ 1099511627775) (hL : L.length ≤ 100000) :
    Calls Try.prog 14 #[.pointer (some ⟨rb, 0, none⟩), .int .i64 r, .int .i64 s] w fun e w' => CertE w.heap.size ht (leadC x (ofRS L r s) r s) e w' ∧ Below w.heap.size w w' := by
  have kR := Blk.new w #[.int .i64 0, .int .i64 0, .int .i64 0, .bool false, .int .u64 0, .slice none 0 0] 42
  have bR : Below w.heap.size w (w.alloc (.cells #[.int .i64 0, .int .i64 0, .int .i64 0, .bool false, .int .u64 0, .slice none 0 0] 42)) := (Below.refl _ _).alloc (Nat.le_refl _) _
  by_cases hst : s = 1 ∨ s = 2
  rotate_left
  · have n1 : (s != 1) = true := by simp; exact fun e => hst (.inl e)
    have n2 : (s != 2) = true := by simp; exact fun e => hst (.inr e)
    have hlo : leadC x (ofRS L r s) r s = none := by unfold leadC leadO; rw [if_neg hst]; rfl
    rw [hlo]
    unfold CertE
    clear hst hlo H
    go_enter Try.func14, Try.ntmps14
    have y0 := (kR.cell 0).trans rfl
    have y1 := (kR.cell 1).trans rfl
    have y2 := (kR.cell 2).trans rfl
    have y3 := (kR.cell 3).trans rfl
    have y4 := (kR.cell 4).trans rfl
    have y5 := (kR.cell 5).trans rfl
    go_wp2
    refine bodyPost_ret (v := .tuple #[.agg #[.int .i64 0, .int .i64 0, .int .i64 0, .bool false, .int .u64 0, .slice none 0 0], .bool false]) (by simp [results, Try.results14, go_sem, y0, y1, y2, y3, y4, y5]) rfl ?_
    exact ⟨rfl, bR⟩
  · have hlo : leadC x (ofRS L r s) r s = ((ofRS L r s).find? (leads x (ofRS L r s))).map fun v => ⟨r, s, v.has, v.bl, (alikeP (ofRS L r s) v).map Vt.f⟩ := by unfold leadC leadO; rw [if_pos hst]
    have HLO := show Hid (_ = _) from hlo
    clear hlo
    have C0 : ∀ w', Below w.heap.size w w' → w'.cell? ⟨rb, 0, none⟩ = some (.slice sa x.length sc) := fun w' hb => ((H.below hb).k.cell 0).trans rfl
    have C1 : ∀ w', Below w.heap.size w w' → w'.cell? ⟨rb, 1, none⟩ = some (.int .i64 ht) := fun w' hb => ((H.below hb).k.cell 1).trans rfl
    have C2 : ∀ w', Below w.heap.size w w' → w'.cell? ⟨rb, 2, none⟩ = some (.slice la L.length lc) := fun w' hb => ((H.below hb).k.cell 2).trans rfl
    have zC : ∀ w', Below w.heap.size w w' → rb < w'.heap.size := fun w' hb => (H.below hb).k.lt
    have HS : ∀ w', Below w.heap.size w w' → SeatsAt w' sa x := fun w' hb => (H.below hb).seats
    have HV : ∀ w', Below w.heap.size w w' → VotesAt w' la L := fun w' hb => (H.below hb).votes
    clear H
    go_enter Try.func14, Try.ntmps14
    have hcs : (s != 1) = false ∨ ((s != 1) = true ∧ (s != 2) = false) := by rcases hst with rfl | rfl <;> simp
    clear hst
    have hzw : w.heap.size < (w.alloc (.cells #[.int .i64 0, .int .i64 0, .int .i64 0, .bool false, .int .u64 0, .slice none 0 0] 42)).heap.size := by rw [World.size_alloc]; omega
    rcases hcs with n1 | ⟨n1, n2⟩
    all_goals
      go_wp2_with fail
      generalize (w.alloc (.cells #[.int .i64 0, .int .i64 0, .int .i64 0, .bool false, .int .u64 0, .slice none 0 0] 42)) = w1 at *
      go_loopw [8] (fun iv wv => ∃ i : Nat, i ≤ L.length ∧ iv = .int .i64 i ∧ Hid (∀ y ∈ L.take i, y.r = r → y.s = s → leads x (ofRS L r s) y = false) ∧ Below w1.heap.size w1 wv) (fun iv _ => L.length - (intOf iv).toNat)
      case atStart => exact ⟨0, Nat.zero_le _, rfl, by intro y hy; simp at hy, Below.refl _ _⟩
      case round =>
        obtain ⟨i, hi, rfl, HF, hb⟩ := hrel
        have hB := bR.trans (hb.mono bR.size)
        have kb := kR.below hb kR.lt
        have d2 := C2 _ hB
        have zd := zC _ hB
        by_cases hlt : i < L.length
        · have hlt' : (i : Int) < (L.length : Int) := by omega
          obtain ⟨b1, o1, e1, z1, c0, c1, c2, c3, c4, c5⟩ := (HV _ hB).one hlt
          subst e1
          have HFt := fun hr hs => find_ofRS (p := leads x (ofRS L r s)) hlt HF.out hr hs
          have htk := List.take_succ_eq_append_getElem hlt
          generalize L[i] = y at *
          have HFD := show Hid (_) from HFt
          have HTK := show Hid (_ = _) from htk
          clear HFt htk
          have HNF : ∀ z, leads x (ofRS L r s) y = z → z = false → Hid (∀ y' ∈ L.take (i + 1), y'.r = r → y'.s = s → leads x (ofRS L r s) y' = false) := by
            intro z hz hf y' hy h1 h2
            rw [HTK.out] at hy
            rcases List.mem_append.1 hy with hy | hy
            · exact HF.out y' hy h1 h2
            · rw [List.mem_singleton.1 hy, hz, hf]
          have HNG : (¬ (y.r = r ∧ y.s = s)) → Hid (∀ y' ∈ L.take (i + 1), y'.r = r → y'.s = s → leads x (ofRS L r s) y' = false) := by
            intro hn y' hy h1 h2
            rw [HTK.out] at hy
            rcases List.mem_append.1 hy with hy | hy
            · exact HF.out y' hy h1 h2
            · rw [List.mem_singleton.1 hy] at h1 h2
              exact absurd ⟨h1, h2⟩ hn
          obtain ⟨yh, yr, ys, yhas, ybl, yf⟩ := y
          simp only at c0 c1 c2 c3 c4 c5
          have bV : Below wr.heap.size wr (wr.alloc (.cells #[.int .i64 yh, .int .i64 yr, .int .i64 ys, .bool yhas, .int .u64 ybl, .int .i64 yf] 34)) := (Below.refl _ _).alloc (Nat.le_refl _) _
          have kV := Blk.new wr #[.int .i64 yh, .int .i64 yr, .int .i64 ys, .bool yhas, .int .u64 ybl, .int .i64 yf] 34
          by_cases hq : yr = r ∧ ys = s
          rotate_left
          · have HN := HNG hq
            clear HNG HNF HFD HTK HF HLO
            by_cases hh : yr = r
            · have m1 : (yr != r) = false := by simp [hh]
              have m2 : (ys != s) = true := by simp; exact fun e => hq ⟨hh, e⟩
              clear hq hh
              go_wp2
              exact ⟨⟨i + 1, by omega, by go_num, HN, hb.trans (bV.mono hb.size)⟩, by simp [intOf]; omega⟩
            · have m1 : (yr != r) = true := by simp [hh]
              clear hq hh
              go_wp2
              exact ⟨⟨i + 1, by omega, by go_num, HN, hb.trans (bV.mono hb.size)⟩, by simp [intOf]; omega⟩
          · have m1 : (yr != r) = false := by simp [hq.1]
            have m2 : (ys != s) = false := by simp [hq.2]
            have HFE := show Hid (_) from HFD.out hq.1 hq.2
            clear HNG HTK HF hq HFD
            go_upto_region 8 with fail
            have B2 := hB.trans (bV.mono hB.size)
            have hbV := hb.trans (bV.mono hb.size)
            have hzv := kV.lt
            have hzr : w.heap.size < wr.heap.size := Nat.lt_of_lt_of_le hzw hb.size
            generalize wr.alloc (.cells #[.int .i64 yh, .int .i64 yr, .int .i64 ys, .bool yhas, .int .u64 ybl, .int .i64 yf] 34) = wV at *
            generalize wr.heap.size = vb at *
            have D1 : ∀ w', Below wV.heap.size wV w' → w'.cell? ⟨rb, 1, none⟩ = some (.int .i64 ht) := fun w' h => C1 _ (B2.trans (h.mono B2.size))
            have D3 : ∀ w', Below wV.heap.size wV w' → w'.cell? ⟨vb, 3, none⟩ = some (.bool yhas) := fun w' h => ((kV.below h kV.lt).cell 3).trans rfl
            have D4 : ∀ w', Below wV.heap.size wV w' → w'.cell? ⟨vb, 4, none⟩ = some (.int .u64 ybl) := fun w' h => ((kV.below h kV.lt).cell 4).trans rfl
            have bw : Below wV.heap.size wV wV := Below.refl _ _
            have bw0 : Below wV.heap.size wV wV.drew := bw.drew
            have zrb := zC _ B2
            clear c0 c1 c2 c3 c4 c5 d2 bV
            refine wp_region_held (S := fun w' => Below wV.heap.size wV w') (by kernel_rfl) ?_
            refine wpAnyH_take (i := 0) (v := ?_) rfl (by kernel_rfl) (by kernel_rfl) (by kernel_rfl) (fun _ _ _ h => h) (Or.inl ⟨by kernel_rfl, ?_⟩) (by assumption) ?_
            rotate_left
            · intro w' hSw
              have e1 := D1 _ hSw
              have e3 := D3 _ hSw
              have e4 := D4 _ hSw
              go_simp
              first | (with_reducible rfl) | done | assumption | skip
            simp only [Act.put, List.getElem_toArray, List.getElem_cons_succ, List.getElem_cons_zero, List.setIfInBounds_toArray, List.set_cons_zero, List.set_cons_succ]
            refine wpAnyH_take (i := 1) (v := ?_) rfl (by kernel_rfl) (by kernel_rfl) (by kernel_rfl) (fun _ _ _ h => h) (Or.inl ⟨by kernel_rfl, ?_⟩) (by assumption) ?_
            rotate_left
            · intro w' hSw
              have e1 := D1 _ hSw
              have e3 := D3 _ hSw
              have e4 := D4 _ hSw
              go_simp
              first | (with_reducible rfl) | done | assumption | skip
            simp only [Act.put, List.getElem_toArray, List.getElem_cons_succ, List.getElem_cons_zero, List.setIfInBounds_toArray, List.set_cons_zero, List.set_cons_succ]
            refine wpAnyH_take (i := 2) (v := ?_) rfl (by kernel_rfl) (by kernel_rfl) (by kernel_rfl) (fun _ _ _ h => h) (Or.inl ⟨by kernel_rfl, ?_⟩) (by assumption) ?_
            rotate_left
            · intro w' hSw
              have e1 := D1 _ hSw
              have e3 := D3 _ hSw
              have e4 := D4 _ hSw
              go_simp
              first | (with_reducible rfl) | done | assumption | skip
            simp only [Act.put, List.getElem_toArray, List.getElem_cons_succ, List.getElem_cons_zero, List.setIfInBounds_toArray, List.set_cons_zero, List.set_cons_succ]
            refine wpAnyH_take (i := 3) (v := ?_) rfl (by kernel_rfl) (by kernel_rfl) (by kernel_rfl) (fun _ _ _ h => h) (Or.inl ⟨by kernel_rfl, ?_⟩) (by assumption) ?_
            rotate_left
            · intro w' hSw
              have e1 := D1 _ hSw
              have e3 := D3 _ hSw
              have e4 := D4 _ hSw
              go_simp
              first | (with_reducible rfl) | done | assumption | skip
            simp only [Act.put, List.getElem_toArray, List.getElem_cons_succ, List.getElem_cons_zero, List.setIfInBounds_toArray, List.set_cons_zero, List.set_cons_succ]
            refine wpAnyH_take (i := 4) (v := ?_) rfl (by kernel_rfl) (by kernel_rfl) (by kernel_rfl) (fun _ _ _ h => h) (Or.inl ⟨by kernel_rfl, ?_⟩) (by assumption) ?_
            rotate_left
            · intro w' hSw
              have e1 := D1 _ hSw
              have e3 := D3 _ hSw
              have e4 := D4 _ hSw
              go_simp
              first | (with_reducible rfl) | done | assumption | skip
            simp only [Act.put, List.getElem_toArray, List.getElem_cons_succ, List.getElem_cons_zero, List.setIfInBounds_toArray, List.set_cons_zero, List.set_cons_succ]
            refine wpAnyH_take (i := 5) (v := ?_) rfl (by kernel_rfl) (by kernel_rfl) (by kernel_rfl) (fun _ _ _ h => h) (Or.inl ⟨by kernel_rfl, ?_⟩) (by assumption) ?_
            rotate_left
            · intro w' hSw
              have e1 := D1 _ hSw
              have e3 := D3 _ hSw
              have e4 := D4 _ hSw
              go_simp
              first | (with_reducible rfl) | done | assumption | skip
            simp only [Act.put, List.getElem_toArray, List.getElem_cons_succ, List.getElem_cons_zero, List.setIfInBounds_toArray, List.set_cons_zero, List.set_cons_succ]
            refine wpAnyH_take (i := 6) (v := ?_) rfl (by kernel_rfl) (by kernel_rfl) (by kernel_rfl) (fun _ _ _ h => h) (Or.inl ⟨by kernel_rfl, ?_⟩) (by assumption) ?_
            rotate_left
            · intro w' hSw
              have e1 := D1 _ hSw
              have e3 := D3 _ hSw
              have e4 := D4 _ hSw
              go_simp
              first | (with_reducible rfl) | done | assumption | skip
            simp only [Act.put, List.getElem_toArray, List.getElem_cons_succ, List.getElem_cons_zero, List.setIfInBounds_toArray, List.set_cons_zero, List.set_cons_succ]
            refine wpAnyH_take (i := 7) (v := ?_) rfl (by kernel_rfl) (by kernel_rfl) (by kernel_rfl) (fun _ _ _ h => h) (Or.inl ⟨by kernel_rfl, ?_⟩) (by assumption) ?_
            rotate_left
            · intro w' hSw
              have e1 := D1 _ hSw
              have e3 := D3 _ hSw
              have e4 := D4 _ hSw
              go_simp
              first | (with_reducible rfl) | done | assumption | skip
            simp only [Act.put, List.getElem_toArray, List.getElem_cons_succ, List.getElem_cons_zero, List.setIfInBounds_toArray, List.set_cons_zero, List.set_cons_succ]
            refine wpAnyH_take (i := 8) (v := ?_) rfl (by kernel_rfl) (by kernel_rfl) (by kernel_rfl) (fun _ _ _ h => h) (Or.inl ⟨by kernel_rfl, ?_⟩) (by assumption) ?_
            rotate_left
            · intro w' hSw
              have e1 := D1 _ hSw
              have e3 := D3 _ hSw
              have e4 := D4 _ hSw
              go_simp
              first | (with_reducible rfl) | done | assumption | skip
            simp only [Act.put, List.getElem_toArray, List.getElem_cons_succ, List.getElem_cons_zero, List.setIfInBounds_toArray, List.set_cons_zero, List.set_cons_succ]
            refine wpAnyH_take (i := 9) (v := ?_) rfl (by kernel_rfl) (by kernel_rfl) (by kernel_rfl) (fun _ _ _ h => h) (Or.inl ⟨by kernel_rfl, ?_⟩) (by assumption) ?_
            rotate_left
            · intro w' hSw
              have e1 := D1 _ hSw
              have e3 := D3 _ hSw
              have e4 := D4 _ hSw
              go_simp
              first | (with_reducible rfl) | done | assumption | skip
            simp only [Act.put, List.getElem_toArray, List.getElem_cons_succ, List.getElem_cons_zero, List.setIfInBounds_toArray, List.set_cons_zero, List.set_cons_succ]
            refine wpAnyH_take (i := 10) (v := ?_) rfl (by kernel_rfl) (by kernel_rfl) (by kernel_rfl) (fun _ _ _ h => h) (Or.inl ⟨by kernel_rfl, ?_⟩) (by assumption) ?_
            rotate_left
            · intro w' hSw
              have e1 := D1 _ hSw
              have e3 := D3 _ hSw
              have e4 := D4 _ hSw
              go_simp
              first | (with_reducible rfl) | done | assumption | skip
            simp only [Act.put, List.getElem_toArray, List.getElem_cons_succ, List.getElem_cons_zero, List.setIfInBounds_toArray, List.set_cons_zero, List.set_cons_succ]
            have bX0 : Below wV.heap.size wV (wV.drew.alloc (.cells #[.int .i64 0, .int .i64 0, .int .i64 0, .bool false, .int .u64 0, .slice none 0 0] 42)) := bel_al bw0 _
            have kX0 : Blk (wV.drew.alloc (.cells #[.int .i64 0, .int .i64 0, .int .i64 0, .bool false, .int .u64 0, .slice none 0 0] 42)) wV.heap.size #[.int .i64 0, .int .i64 0, .int .i64 0, .bool false, .int .u64 0, .slice none 0 0] 42 := Blk.new wV.drew _ _
            refine wpAnyH_ready (rs := [11]) (by kernel_rfl) (by simp) ?_
            refine AllReadyH.cons rfl (fun K hK => ?_) AllReadyH.nil
            go_simp
            refine hK.out _ _ bX0 (fun _ => ?_)
            clear hK K
            try simp only [Act.put, List.getElem_toArray, List.getElem_cons_succ, List.getElem_cons_zero, List.setIfInBounds_toArray, List.set_cons_zero, List.set_cons_succ]
            have x0 := (kX0.cell 0).trans rfl
            have x1 := (kX0.cell 1).trans rfl
            have x2 := (kX0.cell 2).trans rfl
            have x3 := (kX0.cell 3).trans rfl
            have x4 := (kX0.cell 4).trans rfl
            have x5 := (kX0.cell 5).trans rfl
            have f0 := kX0.frozen 0
            have f1 := kX0.frozen 1
            have f2 := kX0.frozen 2
            have f3 := kX0.frozen 3
            have f4 := kX0.frozen 4
            have f5 := kX0.frozen 5
            have zX := kX0.lt
            clear D1 D3 D4
            refine wpAnyH_ready (rs := [12]) (by kernel_rfl) (by simp) ?_
            refine AllReadyH.cons rfl (fun K hK => ?_) AllReadyH.nil
            go_simp
            have kX : Blk (wV.alloc (.cells #[.int .i64 ht, .int .i64 r, .int .i64 s, .bool yhas, .int .u64 ybl, .slice none 0 0] 42)).drew wV.heap.size #[.int .i64 ht, .int .i64 r, .int .i64 s, .bool yhas, .int .u64 ybl, .slice none 0 0] 42 := (Blk.new wV _ _).drew
            have bX : Below wV.heap.size wV (wV.alloc (.cells #[.int .i64 ht, .int .i64 r, .int .i64 s, .bool yhas, .int .u64 ybl, .slice none 0 0] 42)).drew := (bel_al bw _).drew
            refine hK.out _ _ bX (fun _ => ?_)
            clear hK K x0 x1 x2 x3 x4 x5 f0 f1 f2 f3 f4 f5 zX kX0 bX0 bw0
            try simp only [Act.put, List.getElem_toArray, List.getElem_cons_succ, List.getElem_cons_zero, List.setIfInBounds_toArray, List.set_cons_zero, List.set_cons_succ]
            refine wpAnyH_done (by kernel_rfl) ?_ _
            generalize (wV.alloc (.cells #[.int .i64 ht, .int .i64 r, .int .i64 s, .bool yhas, .int .u64 ybl, .slice none 0 0] 42)).drew = wX at *
            generalize hxb : wV.heap.size = xb at *
            have hvx : vb < xb := hzv
            have hrx : rb < xb := zrb
            have hwx : w.heap.size + 1 ≤ xb := by have := hvx; omega
            have hw1x : w1.heap.size ≤ xb := by have := hbV.size; omega
            clear bw hzv zrb hxb
            go_wp2_with fail
            generalize wr = wq at *
            go_loopw [11] (fun kv wv => ∃ (k : Nat) (q : List Int) (lv : Value), k ≤ L.length ∧ kv = .int .i64 k ∧ Hid (q = (alikeP (ofRS (L.take k) r s) ⟨yh, yr, ys, yhas, ybl, yf⟩).map Vt.f) ∧ q.length ≤ k ∧ Blk wv xb #[.int .i64 ht, .int .i64 r, .int .i64 s, .bool yhas, .int .u64 ybl, lv] 42 ∧ wv.ownsRow (xb + 1) 3 1 lv q.length (flatI q) ∧ Below xb wV wv) (fun kv _ => L.length - (intOf kv).toNat)
            case atStart => exact ⟨0, [], .slice none 0 0, Nat.zero_le _, rfl, rfl, Nat.zero_le _, kX, World.ownsRow_nil _ _ _ _, bX⟩
            case round =>
              obtain ⟨k, q, lv, hk, rfl, HQ, hql, kx, hown, hbx⟩ := hrel
              have hBx := B2.trans (hbx.mono (by omega))
              have g2 := C2 _ hBx
              have zg := zC _ hBx
              have zx := kx.lt
              have hne : lv.ownBlock ≠ some xb := fun e => by have := (hown.lt _ e).1; omega
              by_cases hlk : k < L.length
              · have hlk' : (k : Int) < (L.length : Int) := by omega
                obtain ⟨b2, o2, e2, z2, c0, c1, c2, c3, c4, c5⟩ := (HV _ hBx).one hlk
                obtain ⟨rfl, rfl⟩ : b1 = b2 ∧ o1 = o2 := by simpa using e2
                clear e2
                have htk := List.take_succ_eq_append_getElem hlk
                generalize L[k] = z at *
                obtain ⟨zh, zr, zs, zhas, zbl, zf⟩ := z
                simp only at c0 c1 c2 c3 c4 c5
                have hz1 : Below xb wV (wr.alloc (.cells #[.int .i64 zh, .int .i64 zr, .int .i64 zs, .bool zhas, .int .u64 zbl, .int .i64 zf] 34)) := hbx.alloc (by omega) _
                have hownA := hown.alloc (.cells #[.int .i64 zh, .int .i64 zr, .int .i64 zs, .bool zhas, .int .u64 zbl, .int .i64 zf] 34)
                have kxA := kx.alloc (.cells #[.int .i64 zh, .int .i64 zr, .int .i64 zs, .bool zhas, .int .u64 zbl, .int .i64 zf] 34)
                have kVr := kV.below hbx hvx
                have v3 := (kVr.cell 3).trans rfl
                have v4 := (kVr.cell 4).trans rfl
                have zv := kVr.lt
                by_cases hq : zr = r ∧ zs = s ∧ zhas = yhas ∧ zbl = ybl
                · have n3 : (zr == r) = true := by simp [hq.1]
                  have n4 : (zs == s) = true := by simp [hq.2.1]
                  have n5 : (zhas == yhas) = true := by simp [hq.2.2.1]
                  have n6 : (zbl == ybl) = true := by simp [hq.2.2.2]
                  have HN : Hid (q ++ [zf] = (alikeP (ofRS (L.take (k + 1)) r s) ⟨yh, yr, ys, yhas, ybl, yf⟩).map Vt.f) := by
                    show _ = _
                    rw [HQ.out, htk]
                    rw [alike_snoc, if_pos hq, List.map_append]; rfl
                  have hz2 : Below xb wV ((wr.alloc (.cells #[.int .i64 zh, .int .i64 zr, .int .i64 zs, .bool zhas, .int .u64 zbl, .int .i64 zf] 34)).alloc (.cells #[.int .i64 zf] 3)) := hz1.alloc (by rw [World.size_alloc]; omega) _
                  have hownB := hownA.alloc (.cells #[.int .i64 zf] 3)
                  have kxB := kxA.alloc (.cells #[.int .i64 zf] 3)
                  have kI := Blk.new (wr.alloc (.cells #[.int .i64 zh, .int .i64 zr, .int .i64 zs, .bool zhas, .int .u64 zbl, .int .i64 zf] 34)) #[.int .i64 zf] 3
                  rw [World.size_alloc] at kI
                  obtain ⟨v2, w2, hr2, ho2, hgr2⟩ := app_ints _ (xb + 1) _ q hownB _ 1 [zf] (IntsAt.blk kI) (by omega) (by simp) (by simp; omega) 1 rfl
                  have b2 : Below xb wV w2 := hz2.grown hgr2 (by simp; omega) (fun k e => by have := (hownB.lt k e).1; omega)
                  obtain ⟨na2, nc2, rfl, _⟩ := IntsAt.of_owns ho2
                  have hql2 : (q ++ [zf]).length = q.length + 1 := by simp
                  rw [hql2] at ho2 hr2
                  have kx2 := kxB.grown hgr2 hne
                  have kx3 := kx2.set 5 (.slice na2 (q.length + 1) nc2)
                  have b3 : Below xb wV (w2.setCell ⟨xb, 5, none⟩ (.slice na2 (q.length + 1) nc2)) := b2.setCell (Nat.le_refl _) _
                  have ho3 := ownsRow_setCell_below ho2 (a := ⟨xb, 5, none⟩) (by show xb < xb + 1; omega) (.slice na2 (q.length + 1) nc2)
                  have k5 := (kx2.cell 5).trans rfl
                  have j5 := kx2.frozen 5
                  have kxc := (kx.cell 5).trans rfl
                  have HQL := show Hid (_ = _) from hql2
                  clear hownA hownB kI hgr2 hz1 hz2 HQ htk hq kxA kxB HFE HNF HLO hql2
                  go_wp2_with (at_builtin; refine wpList_append_run rfl _ _ 24 rfl _ _ _ w2 rfl rfl hr2 ?_)
                  exact ⟨⟨k + 1, q ++ [zf], _, by omega, by go_num, HN, by simp; omega, kx3, by rw [HQL.out]; exact ho3, b3⟩, by simp [intOf]; omega⟩
                · have HN : Hid (q = (alikeP (ofRS (L.take (k + 1)) r s) ⟨yh, yr, ys, yhas, ybl, yf⟩).map Vt.f) := by
                    show _ = _
                    rw [HQ.out, htk]
                    rw [alike_snoc, if_neg hq, List.append_nil]
                  clear HQ htk HFE HNF HLO
                  have hcases : (zr == r) = false ∨ ((zr == r) = true ∧ (zs == s) = false) ∨ ((zr == r) = true ∧ (zs == s) = true ∧ (zhas == yhas) = false) ∨ ((zr == r) = true ∧ (zs == s) = true ∧ (zhas == yhas) = true ∧ (zbl == ybl) = false) := by
                    by_cases a1 : zr = r
                    · by_cases a2 : zs = s
                      · by_cases a3 : zhas = yhas
                        · exact .inr (.inr (.inr ⟨by simp [a1], by simp [a2], by simp [a3], by simp; exact fun e => hq ⟨a1, a2, a3, e⟩⟩))
                        · exact .inr (.inr (.inl ⟨by simp [a1], by simp [a2], by simp [a3]⟩))
                      · exact .inr (.inl ⟨by simp [a1], by simp [a2]⟩)
                    · exact .inl (by simp [a1])
                  clear hq
                  rcases hcases with n3 | ⟨n3, n4⟩ | ⟨n3, n4, n5⟩ | ⟨n3, n4, n5, n6⟩
                  all_goals
                    go_wp2
                    exact ⟨⟨k + 1, q, lv, by omega, by go_num, HN, by omega, kxA, hownA, hz1⟩, by simp [intOf]; omega⟩
              · have hgk : ¬ (k : Int) < (L.length : Int) := by omega
                have hke : k = L.length := by omega
                have HE : Hid ((alikeP (ofRS L r s) ⟨yh, yr, ys, yhas, ybl, yf⟩).map Vt.f = q) := by show _ = _; rw [HQ.out, hke, List.take_length]
                have hlea : leads x (ofRS L r s) ⟨yh, yr, ys, yhas, ybl, yf⟩ = decide (2 * totP x < 3 * wtP x q) := by rw [← HE.out]; rfl
                have hq64 : q.length ≤ 100000 := by omega
                clear HQ hke
                obtain ⟨qa, qc, rfl, hqI⟩ := IntsAt.of_owns hown
                have ownq := owns_base hown (show w.heap.size + 1 ≤ xb + 1 by omega)
                have KQ : ∀ w', Below wr.heap.size wr w' → Calls Try.prog 36 #[.slice sa x.length sc, .slice qa q.length qc] w' fun e w'' => e = .returned (.bool (decide (2 * totP x < 3 * wtP x q))) ∧ Below w'.heap.size w' w'' := fun w' h => rquorum_any sa qa sc qc x q w' hx (by unfold maxLen; omega) hw (HS _ (hBx.trans (h.mono hBx.size))) (hqI.below h)
                rw [← hlea] at KQ
                obtain ⟨Z, hZ⟩ : ∃ Z, leads x (ofRS L r s) ⟨yh, yr, ys, yhas, ybl, yf⟩ = Z := ⟨_, rfl⟩
                have HNZ := HNF Z hZ
                rw [hZ] at KQ HFE
                have HZ := show Hid (_ = _) from hZ
                clear hZ hlea HNF hown hqI
                have U0 : ∀ w', Below wr.heap.size wr w' → w'.cell? ⟨rb, 0, none⟩ = some (.slice sa x.length sc) := fun w' h => C0 _ (hBx.trans (h.mono hBx.size))
                have U5 : ∀ w', Below wr.heap.size wr w' → w'.cell? ⟨xb, 5, none⟩ = some (.slice qa q.length qc) := fun w' h => ((kx.below h kx.lt).cell 5).trans rfl
                have bq : Below wr.heap.size wr wr := Below.refl _ _
                go_upto_region 15 with fail
                go_region_held3 (fun w' => Below wr.heap.size wr w') (repeat (first | exact bq.drew | exact hN3 | assumption | refine Below.drew ?_ | exact bq | exact Nat.le_refl _))
                  (first
                  | (go_at_call 36
                     refine (KQ _ (by assumption)).mono ?_
                     rintro e w3 ⟨rfl, b3⟩
                     have hN3 : Below wr.heap.size wr w3 := Below.trans (by assumption) (b3.mono (Below.size (by assumption)))))
                all_goals
                  have kx3 := kx.below hN3 kx.lt
                  have bx3 := hbx.trans (hN3.mono (Nat.le_of_lt kx.lt))
                  clear U0 U5 KQ bq g2 zg zx hne
                  cases Z with
                  | false =>
                    have HN := HNZ rfl
                    clear HNZ HFE HLO HE HZ
                    go_wp2
                    exact ⟨⟨i + 1, by omega, by go_num, HN, hbV.trans (bx3.mono hw1x)⟩, by simp [intOf]; omega⟩
                  | true =>
                    have HR := show Hid (_ = _) from HFE.out rfl
                    clear HNZ HFE
                    have h3 := hbV.trans (bx3.mono hw1x)
                    have kb3 := kR.below h3 kR.lt
                    have B3 := bR.trans (h3.mono bR.size)
                    have own3 := owns_keep ownq hN3
                    have e0 := (kx3.cell 0).trans rfl
                    have e1 := (kx3.cell 1).trans rfl
                    have e2 := (kx3.cell 2).trans rfl
                    have e3 := (kx3.cell 3).trans rfl
                    have e4 := (kx3.cell 4).trans rfl
                    have e5 := (kx3.cell 5).trans rfl
                    have y0 := (kb3.cell 0).trans rfl
                    have y1 := (kb3.cell 1).trans rfl
                    have y2 := (kb3.cell 2).trans rfl
                    have y3 := (kb3.cell 3).trans rfl
                    have y4 := (kb3.cell 4).trans rfl
                    have y5 := (kb3.cell 5).trans rfl
                    have q0 := kb3.frozen 0
                    have q1 := kb3.frozen 1
                    have q2 := kb3.frozen 2
                    have q3 := kb3.frozen 3
                    have q4 := kb3.frozen 4
                    have q5 := kb3.frozen 5
                    have zb := kb3.lt
                    have zx3 := kx3.lt
                    have own4 := own_six0 (b := w.heap.size) own3 (by omega) (.int .i64 ht) (.int .i64 r) (.int .i64 s) (.bool yhas) (.int .u64 ybl) (.slice qa q.length qc)
                    have B4 := bel_six0 B3 (Nat.le_refl _) (.int .i64 ht) (.int .i64 r) (.int .i64 s) (.bool yhas) (.int .u64 ybl) (.slice qa q.length qc)
                    go_wp2
                    refine bodyPost_ret (v := .tuple #[.agg #[.int .i64 ht, .int .i64 r, .int .i64 s, .bool yhas, .int .u64 ybl, .slice qa q.length qc], .bool true]) (by simp [results, Try.results14, go_sem, y0, y1, y2, y3, y4, y5]) rfl ?_
                    have HC : leadC x (ofRS L r s) r s = some ⟨r, s, yhas, ybl, q⟩ := by rw [HLO.out, HR.out]; simp only [Option.map_some]; rw [HE.out]
                    obtain ⟨_, _, hj1, hj2⟩ := IntsAt.of_owns own4
                    cases hj1
                    rw [HC]
                    exact ⟨⟨qa, qc, rfl, hj2, fun a ha => Nat.le_of_succ_le (owns_fresh own4 a ha)⟩, B4⟩
            
        · have hge : ¬ (i : Int) < (L.length : Int) := by omega
          have hie : i = L.length := by omega
          have hno : (ofRS L r s).find? (leads x (ofRS L r s)) = none := by
            rw [List.find?_eq_none]
            intro y hy
            obtain ⟨h1, h2⟩ := List.mem_filter.1 hy
            simp only [Bool.and_eq_true, decide_eq_true_eq] at h2
            have := HF.out y (by rw [hie, List.take_length]; exact h1) h2.1 h2.2
            rw [this]; simp
          have HNO := show Hid (_ = _) from hno
          clear hno hie HF
          have y0 := (kb.cell 0).trans rfl
          have y1 := (kb.cell 1).trans rfl
          have y2 := (kb.cell 2).trans rfl
          have y3 := (kb.cell 3).trans rfl
          have y4 := (kb.cell 4).trans rfl
          have y5 := (kb.cell 5).trans rfl
          have q0 := kb.frozen 0
          have q1 := kb.frozen 1
          have q2 := kb.frozen 2
          have q3 := kb.frozen 3
          have q4 := kb.frozen 4
          have q5 := kb.frozen 5
          have zb := kb.lt
          go_wp2
          refine bodyPost_ret (v := .tuple #[.agg #[.int .i64 0, .int .i64 0, .int .i64 0, .bool false, .int .u64 0, .slice none 0 0], .bool false]) (by simp [results, Try.results14, go_sem, y0, y1, y2, y3, y4, y5]) rfl ?_
          refine ⟨by rw [HLO.out, HNO.out]; exact rfl, ?_⟩
          iterate 6 refine Below.setCell ?_ (by show w.heap.size ≤ w.heap.size; omega) _
          exact hB
end Go.Proofs.Ytimcddknoanghaa
