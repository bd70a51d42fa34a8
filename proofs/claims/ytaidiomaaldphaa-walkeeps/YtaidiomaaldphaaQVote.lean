/- A pass that reads: lists of numbers, votes, records that hold a vote. -/
import Derived.Test.YtaidiomaaldphaaQRd2
namespace Go.Proofs.Ytaidiomaaldphaa
open Go.RowKit
set_option linter.unusedVariables false
set_option linter.unusedSimpArgs false

def sets (cs : Array Value) (l : List (Nat × Int)) : Array Value := l.foldl (fun c p => c.setIfInBounds p.1 (.int .i64 p.2)) cs
theorem sets_size (cs : Array Value) (l : List (Nat × Int)) : (sets cs l).size = cs.size := by
  unfold sets
  induction l generalizing cs with
  | nil => rfl
  | cons p r ih => rw [List.foldl_cons, ih]; simp
theorem sets_take (cs : Array Value) (l : List (Nat × Int)) {k : Nat} (h : k < l.length) : sets cs (l.take (k + 1)) = (sets cs (l.take k)).setIfInBounds l[k].1 (.int .i64 l[k].2) := by
  rw [List.take_succ_eq_append_getElem h]
  unfold sets
  rw [List.foldl_append]; rfl
def encs (l : List (Nat × Int)) : List UInt8 := l.flatMap fun p => numB p.2
theorem encs_drop (l : List (Nat × Int)) {k : Nat} (h : k < l.length) : encs (l.drop k) = numB l[k].2 ++ encs (l.drop (k + 1)) := by
  rw [List.drop_eq_getElem_cons h]
  rfl
theorem encs_len (l : List (Nat × Int)) : (encs l).length ≤ 6 * l.length := by
  induction l with
  | nil => simp [encs]
  | cons p r ih =>
    have := numB_len p.2
    simp only [encs, List.flatMap_cons, List.length_append, List.length_cons] at ih ⊢
    omega

set_option maxHeartbeats 800000 in
theorem numbers_r (b xb lb cap : Nat) (cs : Array Value) (t : TypeId) (ps : List (Nat × Int)) (r : List UInt8) (w : World) (hl : ps.length ≤ 16) (hp : ∀ p ∈ ps, p.1 < cs.size ∧ 0 ≤ p.2 ∧ p.2 ≤ 1099511627775) (k : RdAt w b (encs ps ++ r)) (hL : r.length ≤ 1099511626000) (kx : Blk w xb cs t) (hne : xb ≠ b)
    (hlb : lb < w.heap.size) (hl1 : lb ≠ b) (hl2 : lb ≠ xb) (hA : ∀ i p, ps[i]? = some p → w.cell? ⟨lb, i, none⟩ = some (.pointer (some ⟨xb, p.1, none⟩))) :
    Calls Try.prog 45 #[.pointer (some ⟨b, 0, none⟩), .slice (some ⟨lb, 0, none⟩) ps.length cap] w fun e w' => e = .returned (.tuple #[]) ∧ Rd b xb (sets cs ps) t r w w' := by
  have HP := show Hid (∀ p ∈ ps, _) from hp
  have HA := show Hid (∀ i p, _) from hA
  clear hp hA
  go_enter Try.func45, Try.ntmps45
  go_wp2
  go_loopw [5, 8] (fun _ iv wv => ∃ i : Nat, i ≤ ps.length ∧ iv = .int .i64 i ∧ Rd b xb (sets cs (ps.take i)) t (encs (ps.drop i) ++ r) w wv) (fun _ iv _ => ps.length - (intOf iv).toNat)
  case atStart => exact ⟨0, Nat.zero_le _, rfl, k, kx, But.refl _ _⟩
  case round =>
    obtain ⟨i, hi, rfl, R⟩ := hrel
    by_cases hlt : i < ps.length
    · have hlt' : (i : Int) < (ps.length : Int) := by omega
      have c1 : wr.cell? ⟨lb, i, none⟩ = some (.pointer (some ⟨xb, ps[i].1, none⟩)) := by
        rw [R.but.cell (p := ⟨lb, i, none⟩) hlb (fun q => Or.elim q hl1 hl2)]
        exact HA.out i _ (List.getElem?_eq_getElem hlt)
      have zl : lb < wr.heap.size := Nat.lt_of_lt_of_le hlb R.but.size
      have hq := HP.out ps[i] (List.getElem_mem hlt)
      have R' := R.rd
      rw [encs_drop ps hlt, List.append_assoc] at R'
      have hle := encs_len (ps.drop (i + 1))
      rw [List.length_drop] at hle
      have K := number_r b xb ps[i].1 (sets cs (ps.take i)) t ps[i].2 (encs (ps.drop (i + 1)) ++ r) wr hq.2.1 hq.2.2 R' (by rw [List.length_append]; omega) R.x (by rw [sets_size]; exact hq.1) hne
      rw [← sets_take cs ps hlt] at K
      have HR := show Hid (Rd _ _ _ _ _ _ _) from R
      clear R R' hq
      generalize ps[i].1 = j at *
      generalize ps[i].2 = n at *
      go_wp2_with fail
      refine K.mono ?_
      rintro e w1 ⟨rfl, R1⟩
      go_wp2
      exact ⟨⟨i + 1, by omega, by go_num, HR.out.trans R1⟩, by simp [intOf]; omega⟩
    · have hge : ¬ (i : Int) < (ps.length : Int) := by omega
      have e1 : ps.take i = ps := List.take_of_length_le (by omega)
      have e2 : ps.drop i = [] := List.drop_of_length_le (by omega)
      rw [e1, e2] at R
      clear e1 e2
      go_wp2
      go_end0
      exact ⟨rfl, R⟩

/-- The bytes of a vote. -/
def voteBy (h rd s : Int) (has : Bool) (bl f : Int) : List UInt8 := encs [(0, h), (0, rd), (0, s)] ++ (flagB has ++ (be bl 8 ++ numB f))
/-- Cells into which a vote was read. -/
def voteC (cs : Array Value) (o : Nat) (h rd s : Int) (has : Bool) (bl f : Int) : Array Value :=
  (((sets cs [(o, h), (o + 1, rd), (o + 2, s)]).setIfInBounds (o + 3) (.bool has)).setIfInBounds (o + 4) (.int .u64 bl)).setIfInBounds (o + 5) (.int .i64 f)

set_option maxHeartbeats 1600000 in
theorem vote_r (b xb o : Nat) (cs : Array Value) (t : TypeId) (h rd s : Int) (has : Bool) (bl f : Int) (r : List UInt8) (w : World) (hh : 0 ≤ h ∧ h ≤ 1099511627775) (hrd : 0 ≤ rd ∧ rd ≤ 1099511627775) (hs : 0 ≤ s ∧ s ≤ 1099511627775) (hbl : 0 ≤ bl ∧ bl ≤ 18446744073709551615) (hf : 0 ≤ f ∧ f ≤ 1099511627775)
    (k : RdAt w b (voteBy h rd s has bl f ++ r)) (hL : r.length ≤ 1099511620000) (kx : Blk w xb cs t) (ho : o + 5 < cs.size) (hne : xb ≠ b) :
    Calls Try.prog 28 #[.pointer (some ⟨b, 0, none⟩), .pointer (some ⟨xb, o, none⟩)] w fun e w' => e = .returned (.tuple #[]) ∧ Rd b xb (voteC cs o h rd s has bl f) t r w w' := by
  have zx := kx.lt
  have zb : b < w.heap.size := Blk.lt k
  have hfl := numB_len f
  have hbe := be_len bl 8
  have hfg : (flagB has).length = 1 := by simp [flagB]
  have k1 : RdAt w b (encs [(o, h), (o + 1, rd), (o + 2, s)] ++ (flagB has ++ (be bl 8 ++ (numB f ++ r)))) := by
    have e : voteBy h rd s has bl f ++ r = encs [(o, h), (o + 1, rd), (o + 2, s)] ++ (flagB has ++ (be bl 8 ++ (numB f ++ r))) := by simp [voteBy, encs, List.append_assoc]
    rw [← e]; exact k
  go_enter Try.func28, Try.ntmps28
  go_wp2_with fail
  have bA : Below w.heap.size w (w.alloc (.cells #[.pointer (some ⟨xb, o, none⟩), .pointer (some ⟨xb, o + 1, none⟩), .pointer (some ⟨xb, o + 2, none⟩)] 84)).drew := ((Below.refl _ _).alloc (Nat.le_refl _) _).drew
  have kP := (Blk.new w #[.pointer (some ⟨xb, o, none⟩), .pointer (some ⟨xb, o + 1, none⟩), .pointer (some ⟨xb, o + 2, none⟩)] 84).drew
  have kk : RdAt (w.alloc (.cells #[.pointer (some ⟨xb, o, none⟩), .pointer (some ⟨xb, o + 1, none⟩), .pointer (some ⟨xb, o + 2, none⟩)] 84)).drew b _ := Blk.below k1 bA zb
  have kxx := kx.below bA zx
  have hzz : w.heap.size < (w.alloc (.cells #[.pointer (some ⟨xb, o, none⟩), .pointer (some ⟨xb, o + 1, none⟩), .pointer (some ⟨xb, o + 2, none⟩)] 84)).drew.heap.size := kP.lt
  refine wp_region_any (by kernel_rfl) ?_
  change wpAny _ _ _ _ _ _ _ (World.drew _)
  refine wpAny_take (i := 0) (v := ?_) rfl (by kernel_rfl) (by kernel_rfl) (by kernel_rfl) (fun _ _ _ h => h) (Or.inl ⟨by rfl, ?_⟩) ?_
  rotate_left
  · intro w
    go_simp
    try (with_reducible rfl)
  refine wpAny_take (i := 1) (v := ?_) rfl (by kernel_rfl) (by kernel_rfl) (by kernel_rfl) (fun _ _ _ h => h) (Or.inl ⟨by rfl, ?_⟩) ?_
  rotate_left
  · intro w
    go_simp
    try (with_reducible rfl)
  refine wpAny_take (i := 2) (v := ?_) rfl (by kernel_rfl) (by kernel_rfl) (by kernel_rfl) (fun _ _ _ h => h) (Or.inl ⟨by rfl, ?_⟩) ?_
  rotate_left
  · intro w
    go_simp
    try (with_reducible rfl)
  refine wpAny_take (i := 3) (v := ?_) rfl (by kernel_rfl) (by kernel_rfl) (by kernel_rfl) (fun _ _ _ h => h) (Or.inl ⟨by rfl, ?_⟩) ?_
  rotate_left
  · intro w
    go_simp
    try (with_reducible rfl)
  refine wpAny_take (i := 4) (v := ?_) rfl (by kernel_rfl) (by kernel_rfl) (by kernel_rfl) (fun _ _ _ h => h) (Or.inl ⟨by rfl, ?_⟩) ?_
  rotate_left
  · intro w
    go_simp
    try (with_reducible rfl)
  refine wpAny_take (i := 5) (v := ?_) rfl (by kernel_rfl) (by kernel_rfl) (by kernel_rfl) (fun _ _ _ h => h) (Or.inl ⟨by rfl, ?_⟩) ?_
  rotate_left
  · intro w
    go_simp
    try (with_reducible rfl)
  refine wpAny_take (i := 6) (v := ?_) rfl (by kernel_rfl) (by kernel_rfl) (by kernel_rfl) (fun _ _ _ h => h) (Or.inl ⟨by rfl, ?_⟩) ?_
  rotate_left
  · intro w
    go_simp
    try (with_reducible rfl)
  refine wpAny_take (i := 7) (v := ?_) rfl (by kernel_rfl) (by kernel_rfl) (by kernel_rfl) (fun _ _ _ h => h) (Or.inl ⟨by rfl, ?_⟩) ?_
  rotate_left
  · intro w
    go_simp
    try (with_reducible rfl)
  refine wpAny_take (i := 8) (v := ?_) rfl (by kernel_rfl) (by kernel_rfl) (by kernel_rfl) (fun _ _ _ h => h) (Or.inl ⟨by rfl, ?_⟩) ?_
  rotate_left
  · intro w
    go_simp
    try (with_reducible rfl)
  refine wpAny_take (i := 9) (v := ?_) rfl (by kernel_rfl) (by kernel_rfl) (by kernel_rfl) (fun _ _ _ h => h) (Or.inl ⟨by rfl, ?_⟩) ?_
  rotate_left
  · intro w
    go_simp
    try (with_reducible rfl)
  refine wpAny_ready (rs := [10]) (by kernel_rfl) (by simp) ?_
  refine AllReady.cons rfl (fun K hK => ?_) AllReady.nil
  go_simp
  refine hK _ _ ?_
  clear hK K
  refine wpAny_ready (rs := [11]) (by kernel_rfl) (by simp) ?_
  refine AllReady.cons rfl (fun K hK => ?_) AllReady.nil
  go_simp
  refine (numbers_r b xb w.heap.size 3 cs t [(o, h), (o + 1, rd), (o + 2, s)] _ (w.alloc (.cells #[.pointer (some ⟨xb, o, none⟩), .pointer (some ⟨xb, o + 1, none⟩), .pointer (some ⟨xb, o + 2, none⟩)] 84)).drew (by simp) (by
    intro p hp
    simp at hp
    rcases hp with rfl | rfl | rfl
    · exact ⟨by show o < _; omega, hh⟩
    · exact ⟨by show o + 1 < _; omega, hrd⟩
    · exact ⟨by show o + 2 < _; omega, hs⟩) kk (by simp only [List.length_append]; omega) kxx hne hzz (by omega) (by omega) (by
    intro i p hp
    rw [kP.cell]
    match i, hp with
    | 0, hp => simp at hp; subst hp; rfl
    | 1, hp => simp at hp; subst hp; rfl
    | 2, hp => simp at hp; subst hp; rfl
    | n + 3, hp => simp at hp)).mono ?_
  rintro e w1 ⟨rfl, R1⟩
  have B1 : But (fun k => k = b ∨ k = xb) w w1 := (But.of_below bA).trans R1.but
  have q1 := R1.rd
  have x1 := R1.x
  have hsz := sets_size cs [(o, h), (o + 1, rd), (o + 2, s)]
  clear R1 kk kxx kP bA hzz k1 k kx
  refine hK _ _ ?_
  clear hK K
  refine wpAny_done (by kernel_rfl) ?_ _
  go_wp2_with fail
  refine (flag_r b xb (o + 3) _ t has _ w1 q1 (by simp only [List.length_append]; omega) x1 (by rw [hsz]; omega) hne).mono ?_
  rintro e w2 ⟨rfl, R2⟩
  go_wp2_with fail
  refine (digest_r b xb (o + 4) _ t bl _ w2 hbl.1 hbl.2 R2.rd (by simp only [List.length_append]; omega) R2.x (by simp only [Array.size_setIfInBounds, hsz]; omega) hne).mono ?_
  rintro e w3 ⟨rfl, R3⟩
  go_wp2_with fail
  refine (number_r b xb (o + 5) _ t f r w3 hf.1 hf.2 R3.rd (by omega) R3.x (by simp only [Array.size_setIfInBounds, hsz]; omega) hne).mono ?_
  rintro e w4 ⟨rfl, R4⟩
  go_wp2
  go_end0
  exact ⟨rfl, R4.rd, R4.x, ((B1.trans R2.but).trans R3.but).trans R4.but⟩

/-- The bytes of a record of a vote. -/
def recBy (h rd s : Int) (has : Bool) (bl f : Int) : List UInt8 := numB 1 ++ voteBy h rd s has bl f

set_option maxHeartbeats 1600000 in
theorem record_r (b xb : Nat) (cs : Array Value) (t : TypeId) (h rd s : Int) (has : Bool) (bl f : Int) (r : List UInt8) (w : World) (hh : 0 ≤ h ∧ h ≤ 1099511627775) (hrd : 0 ≤ rd ∧ rd ≤ 1099511627775) (hs : 0 ≤ s ∧ s ≤ 1099511627775) (hbl : 0 ≤ bl ∧ bl ≤ 18446744073709551615) (hf : 0 ≤ f ∧ f ≤ 1099511627775)
    (k : RdAt w b (recBy h rd s has bl f ++ r)) (hL : r.length ≤ 1099511610000) (kx : Blk w xb cs t) (ho : 6 < cs.size) (hne : xb ≠ b) :
    Calls Try.prog 18 #[.pointer (some ⟨b, 0, none⟩), .pointer (some ⟨xb, 0, none⟩)] w fun e w' => e = .returned (.tuple #[]) ∧ Rd b xb (voteC (cs.setIfInBounds 0 (.int .i64 1)) 1 h rd s has bl f) t r w w' := by
  have zx := kx.lt
  have zb : b < w.heap.size := Blk.lt k
  have hvl : (voteBy h rd s has bl f ++ r).length ≤ 1099511627000 := by
    have := numB_len f
    have := be_len bl 8
    have := encs_len [(0, h), (0, rd), (0, s)]
    simp only [voteBy, List.length_append, flagB, List.length_cons, List.length_nil] at *
    omega
  have k1 : RdAt w b (numB 1 ++ (voteBy h rd s has bl f ++ r)) := by
    have e : recBy h rd s has bl f ++ r = numB 1 ++ (voteBy h rd s has bl f ++ r) := by simp [recBy, List.append_assoc]
    rw [← e]; exact k
  go_enter Try.func18, Try.ntmps18
  go_wp2_with fail
  refine (number_r b xb 0 cs t 1 _ w (by omega) (by omega) k1 hvl kx (by omega) hne).mono ?_
  rintro e w1 ⟨rfl, R1⟩
  have x0 : w1.cell? ⟨xb, 0, none⟩ = some (.int .i64 1) := by rw [R1.x.cell]; exact set_get _ _ _ (by omega)
  have z1 := R1.x.lt
  clear k1 k kx
  go_wp2_with fail
  refine (vote_r b xb 1 _ t h rd s has bl f r w1 hh hrd hs hbl hf R1.rd (by omega) R1.x (by simp only [Array.size_setIfInBounds]; omega) hne).mono ?_
  rintro e w2 ⟨rfl, R2⟩
  have R := R1.trans R2
  go_wp2
  go_end0
  exact ⟨rfl, R⟩
end Go.Proofs.Ytaidiomaaldphaa
