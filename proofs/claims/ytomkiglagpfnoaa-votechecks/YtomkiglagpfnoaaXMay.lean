/- Which certs may be. -/
import Derived.Test.YtomkiglagpfnoaaXThings
namespace Go.Proofs.Ytomkiglagpfnoaa.W
open Go.RowKit
set_option linter.unusedVariables false
set_option linter.unusedSimpArgs false

def riseI (least : Int) : List Int → Bool
  | [] => true
  | n :: r => if n < least then false else riseI (wrap64 (n + 1)) r

theorem hb1' {base : Nat} {w wv : World} (hb : Below w.heap.size w wv) (hb0 : base ≤ w.heap.size) (o : Obj) : Below base wv (wv.alloc o) := (Below.refl _ _).alloc (Nat.le_trans hb0 hb.size) _

theorem mayCert1_any (n : Int) (w : World) : Calls Try.prog 52 #[.int .i64 n] w fun e w' => e = .returned (.int .i64 n) ∧ Below w.heap.size w w' := by
  go_enter Try.func52, Try.ntmps52
  go_wp2
  go_ret
  exact ⟨rfl, Below.refl _ _⟩



set_option maxHeartbeats 1600000 in
theorem riseInt_anyX (base : Nat) (l : Lst Int) (least : Int) (w : World) (hb0 : base ≤ w.heap.size) (hh : l.Held intF 1 base w) :
    Calls Try.prog 51 #[.slice l.la l.xs.length l.lc, .int .i64 least, .func (.func 52) #[] #[]] w fun e w' => e = .returned (.bool (riseI least l.xs)) ∧ Below w.heap.size w w' := by
  obtain ⟨la, lc, xs⟩ := l
  obtain ⟨hc, hcm, _⟩ := id hh
  simp only at hc hcm ⊢
  unfold maxLen at hcm
  go_enter Try.func51, Try.ntmps51
  go_wp2
  go_loopw [1, 8, 9, 12] (fun lv _ _ iv wv => ∃ (k : Nat) (t : Int), k ≤ xs.length ∧ iv = .int .i64 k ∧ lv = .int .i64 t ∧ Hid (riseI least xs = riseI t (xs.drop k)) ∧ Below w.heap.size w wv) (fun _ _ _ iv _ => xs.length - (intOf iv).toNat)
  case atStart => exact ⟨0, least, Nat.zero_le _, rfl, rfl, rfl, Below.refl _ _⟩
  case round =>
    obtain ⟨k, t, hk, rfl, rfl, HR, hb⟩ := hrel
    by_cases hlt : k < xs.length
    · have hlt' : (k : Int) < (xs.length : Int) := by omega
      obtain ⟨_, _, h0 | ⟨rb, ro, e0, rl, rz, rc⟩⟩ := hh.below (hb.mono hb0)
      · simp only at h0; subst h0; simp at hlt
      simp only at e0 rc
      subst e0
      have rk := rc k (xs[k]'hlt) (List.getElem?_eq_getElem hlt)
      have HS : Hid (riseI t (xs.drop k) = if (xs[k]'hlt) < t then false else riseI (wrap64 ((xs[k]'hlt) + 1)) (xs.drop (k + 1))) := by
        show _ = _
        rw [List.drop_eq_getElem_cons (by simpa using hlt)]; simp [riseI]
      obtain ⟨y, Hy⟩ : ∃ y : Int, Hid (y = xs[k]'hlt) := ⟨xs[k]'hlt, rfl⟩
      rw [← Hy.out] at rk HS
      rw [Nat.mul_one] at rk
      have e1 := rk.get0 rfl
      simp only [Fld.val] at e1
      have hyb : -9223372036854775808 ≤ y ∧ y ≤ 9223372036854775807 := rk.goods.get 0 rfl
      clear rc
      go_wp2_with fail
      refine (mayCert1_any y _).mono ?_
      rintro e w1 ⟨rfl, b1⟩
      have hb2 := hb.trans (b1.mono hb.size)
      by_cases hless : y < t
      · have Hf : Hid (riseI least xs = false) := HR.out.trans (HS.out.trans (if_pos hless))
        clear HR HS
        go_wp2
        go_ret
        exact ⟨by rw [Hf.out]; rfl, hb2⟩
      · have Hf : Hid (riseI least xs = riseI (wrap64 (y + 1)) (xs.drop (k + 1))) := HR.out.trans (HS.out.trans (if_neg hless))
        clear HR HS
        go_wp2
        exact ⟨⟨k + 1, wrap64 (y + 1), by omega, by go_num, by first | rfl | (unfold wrap64; go_num), Hf, hb2⟩, by simp [intOf]; omega⟩
    · have Hf : Hid (riseI least xs = true) := by
        show _ = _
        rw [HR.out, List.drop_of_length_le (by first | omega | (simp; omega))]; rfl
      have hge : ¬ (k : Int) < (xs.length : Int) := by omega
      clear HR
      go_wp2
      go_ret
      exact ⟨by rw [Hf.out]; rfl, hb⟩



def Cert.may (x : Cert) : Bool := !(decide (x.s ≠ 1) && decide (x.s ≠ 2)) && !(!x.has && decide (x.bl ≠ 0)) && riseI 1 x.fr.xs

set_option maxHeartbeats 1600000 in
theorem mayCert_anyX (x : Cert) (w : World) (g : goods w.heap.size w x.flds) : Calls Try.prog 29 #[.agg #[.int .i64 x.h, .int .i64 x.r, .int .i64 x.s, .bool x.has, .int .u64 x.bl, .slice x.fr.la x.fr.xs.length x.fr.lc]] w fun e w' => e = .returned (.bool x.may) ∧ Below w.heap.size w w' := by
  have key : ∀ wv, Below w.heap.size w wv → Calls Try.prog 51 #[.slice x.fr.la x.fr.xs.length x.fr.lc, .int .i64 1, .func (.func 52) #[] #[]] wv fun e w' => e = .returned (.bool (riseI 1 x.fr.xs)) ∧ Below wv.heap.size wv w' := fun wv hv =>
    riseInt_anyX w.heap.size x.fr 1 wv hv.size (Lst.held (flds := intF) (l := x.fr) intF_len ((g.below hv).get 5 rfl))
  clear g
  obtain ⟨h, r, s, has, bl, fr⟩ := x
  simp only at key ⊢
  have bA : ∀ c, Below w.heap.size w (w.alloc (.cells c 27)) := fun c => (Below.refl _ _).alloc (Nat.le_refl _) _
  rcases (show s = 1 ∨ s = 2 ∨ (¬ s = 1 ∧ ¬ s = 2) by omega) with rfl | rfl | ⟨h1, h2⟩
  rotate_left
  rotate_left
  · have e : (Cert.mk h r s has bl fr).may = false := by simp [Cert.may, h1, h2]
    rw [e]
    clear e
    have h1b : (s != 1) = true := by simpa using h1
    have h2b : (s != 2) = true := by simpa using h2
    go_enter Try.func29, Try.ntmps29
    go_wp2
    go_ret
    exact ⟨rfl, bA _⟩
  all_goals
    cases has
    · by_cases hb : bl = 0
      · subst hb
        go_enter Try.func29, Try.ntmps29
        go_wp2_with fail
        refine (key _ (bA _)).mono ?_
        rintro e w1 ⟨rfl, b1⟩
        go_wp2
        go_ret
        exact ⟨by simp [Cert.may], (bA _).trans (b1.mono (bA _).size)⟩
      · have hbb : (bl != 0) = true := by simpa using hb
        go_enter Try.func29, Try.ntmps29
        go_wp2
        go_ret
        exact ⟨by simp [Cert.may, hb], bA _⟩
    · go_enter Try.func29, Try.ntmps29
      go_wp2_with fail
      refine (key _ (bA _)).mono ?_
      rintro e w1 ⟨rfl, b1⟩
      go_wp2
      go_ret
      exact ⟨by simp [Cert.may], (bA _).trans (b1.mono (bA _).size)⟩

end Go.Proofs.Ytomkiglagpfnoaa.W
