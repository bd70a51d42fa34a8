/- Which certs may be. -/
import Derived.Test.YtblnlfcfjbfhiaaGreatXThings
import Derived.Test.YtblnlfcfjbfhiaaGreatM24

namespace Go.Proofs.YtblnlfcfjbfhiaaGreat.W
open Go.RowKit
set_option linter.unusedVariables false
set_option linter.unusedSimpArgs false

def riseI (least : Int) : List Int → Bool
  | [] => true
  | n :: r => if n < least then false else riseI (wrap64 (n + 1)) r

theorem hb1' {base : Nat} {w wv : World} (hb : Below w.heap.size w wv) (hb0 : base ≤ w.heap.size) (o : Obj) : Below base wv (wv.alloc o) := (Below.refl _ _).alloc (Nat.le_trans hb0 hb.size) _

theorem mayCert1_any (n : Int) (w : World) : Calls Tryz.prog 91 #[.int .i64 n] w fun e w' => e = .returned (.int .i64 n) ∧ Below w.heap.size w w' := by
  go_enter Tryz.func91, Tryz.ntmps91
  go_wp2
  go_ret
  exact ⟨rfl, Below.refl _ _⟩



set_option maxHeartbeats 1600000 in
theorem riseInt_anyX (base : Nat) (l : Lst Int) (least : Int) (w : World) (hb0 : base ≤ w.heap.size) (hh : l.Held intF 1 base w) :
    Calls Tryz.prog 90 #[.slice l.la l.xs.length l.lc, .int .i64 least, .func (.func 91) #[] #[]] w fun e w' => e = .returned (.bool (riseI least l.xs)) ∧ Below w.heap.size w w' := by
  obtain ⟨la, lc, xs⟩ := l
  obtain ⟨hc, hcm, _⟩ := id hh
  simp only at hc hcm ⊢
  unfold maxLen at hcm
  go_enter Tryz.func90, Tryz.ntmps90
  go_wp2
  go_loopw [1, 8, 9, 12] (fun lv _ _ iv wv => ∃ (k : Nat) (t : Int), k ≤ xs.length ∧ iv = .int .i64 k ∧ lv = .int .i64 t ∧ Hid (riseI least xs = riseI t (xs.drop k)) ∧ Below w.heap.size w wv) (fun _ _ _ iv _ => xs.length - (intOf iv).toNat)
  case atStart => exact ⟨0, least, Nat.zero_le _, rfl, rfl, rfl, Below.refl _ _⟩
  case round =>
    obtain ⟨k, t, hk, rfl, rfl, HR, hb⟩ := hrel
    by_cases hlt : k < xs.length
    · have hlt' : (k : Int) < (xs.length : Int) := by omega
      obtain ⟨_, _, h0 | ⟨rb, ro, e0, rl, rz, rc⟩⟩ := hh.below (hb.mono hb0)
      · simp only at h0; subst h0; simp at hlt
      simp only at e0 rc
      subst e0
      have rk := rc k (xs[k]'hlt) (List.getElem?_eq_getElem hlt)
      have HS : Hid (riseI t (xs.drop k) = if (xs[k]'hlt) < t then false else riseI (wrap64 ((xs[k]'hlt) + 1)) (xs.drop (k + 1))) := by
        show _ = _
        rw [List.drop_eq_getElem_cons (by simpa using hlt)]; simp [riseI]
      obtain ⟨y, Hy⟩ : ∃ y : Int, Hid (y = xs[k]'hlt) := ⟨xs[k]'hlt, rfl⟩
      rw [← Hy.out] at rk HS
      rw [Nat.mul_one] at rk
      have e1 := rk.get0 rfl
      simp only [Fld.val] at e1
      have hyb : -9223372036854775808 ≤ y ∧ y ≤ 9223372036854775807 := rk.goods.get 0 rfl
      clear rc
      go_wp2_with fail
      refine (mayCert1_any y _).mono ?_
      rintro e w1 ⟨rfl, b1⟩
      have hb2 := hb.trans (b1.mono hb.size)
      by_cases hless : y < t
      · have Hf : Hid (riseI least xs = false) := HR.out.trans (HS.out.trans (if_pos hless))
        clear HR HS
        go_wp2
        go_ret
        exact ⟨by rw [Hf.out]; rfl, hb2⟩
      · have Hf : Hid (riseI least xs = riseI (wrap64 (y + 1)) (xs.drop (k + 1))) := HR.out.trans (HS.out.trans (if_neg hless))
        clear HR HS
        go_wp2
        exact ⟨⟨k + 1, wrap64 (y + 1), by omega, by go_num, by first | rfl | (unfold wrap64; go_num), Hf, hb2⟩, by simp [intOf]; omega⟩
    · have Hf : Hid (riseI least xs = true) := by
        show _ = _
        rw [HR.out, List.drop_of_length_le (by first | omega | (simp; omega))]; rfl
      have hge : ¬ (k : Int) < (xs.length : Int) := by omega
      clear HR
      go_wp2
      go_ret
      exact ⟨by rw [Hf.out]; rfl, hb⟩



def Cert.may (x : Cert) : Bool := !(decide (x.s ≠ 1) && decide (x.s ≠ 2)) && !(!x.has && decide (x.bl ≠ 0)) && riseI 1 x.fr.xs

set_option maxHeartbeats 1600000 in
theorem mayCert_anyX (x : Cert) (w : World) (g : goods w.heap.size w x.flds) : Calls Tryz.prog 71 #[.agg #[.int .i64 x.h, .int .i64 x.r, .int .i64 x.s, .bool x.has, .int .u64 x.bl, .slice x.fr.la x.fr.xs.length x.fr.lc]] w fun e w' => e = .returned (.bool x.may) ∧ Below w.heap.size w w' := by
  have key : ∀ wv, Below w.heap.size w wv → Calls Tryz.prog 90 #[.slice x.fr.la x.fr.xs.length x.fr.lc, .int .i64 1, .func (.func 91) #[] #[]] wv fun e w' => e = .returned (.bool (riseI 1 x.fr.xs)) ∧ Below wv.heap.size wv w' := fun wv hv =>
    riseInt_anyX w.heap.size x.fr 1 wv hv.size (Lst.held (flds := intF) (l := x.fr) intF_len ((g.below hv).get 5 rfl))
  clear g
  obtain ⟨h, r, s, has, bl, fr⟩ := x
  simp only at key ⊢
  have bA : ∀ c, Below w.heap.size w (w.alloc (.cells c 32)) := fun c => (Below.refl _ _).alloc (Nat.le_refl _) _
  rcases (show s = 1 ∨ s = 2 ∨ (¬ s = 1 ∧ ¬ s = 2) by omega) with rfl | rfl | ⟨h1, h2⟩
  rotate_left
  rotate_left
  · have e : (Cert.mk h r s has bl fr).may = false := by simp [Cert.may, h1, h2]
    rw [e]
    clear e
    have h1b : (s != 1) = true := by simpa using h1
    have h2b : (s != 2) = true := by simpa using h2
    go_enter Tryz.func71, Tryz.ntmps71
    go_wp2
    go_ret
    exact ⟨rfl, bA _⟩
  all_goals
    cases has
    · by_cases hb : bl = 0
      · subst hb
        go_enter Tryz.func71, Tryz.ntmps71
        go_wp2_with fail
        refine (key _ (bA _)).mono ?_
        rintro e w1 ⟨rfl, b1⟩
        go_wp2
        go_ret
        exact ⟨by simp [Cert.may], (bA _).trans (b1.mono (bA _).size)⟩
      · have hbb : (bl != 0) = true := by simpa using hb
        go_enter Tryz.func71, Tryz.ntmps71
        go_wp2
        go_ret
        exact ⟨by simp [Cert.may, hb], bA _⟩
    · go_enter Tryz.func71, Tryz.ntmps71
      go_wp2_with fail
      refine (key _ (bA _)).mono ?_
      rintro e w1 ⟨rfl, b1⟩
      go_wp2
      go_ret
      exact ⟨by simp [Cert.may], (bA _).trans (b1.mono (bA _).size)⟩

end Go.Proofs.YtblnlfcfjbfhiaaGreat.W

namespace Go.Proofs.YtblnlfcfjbfhiaaGreat.W
open Go.RowKit
set_option linter.unusedVariables false
set_option linter.unusedSimpArgs false

def Proof.may (x : Proof) : Bool := if x.leaf = true then decide (x.val ≠ []) && riseI 0 (x.tu.xs.map Turn.p) else decide (x.tu.xs.length = 0) && decide (x.key = []) && decide (x.val = [])



def Sight.may (x : Sight) : Bool := x.ce.may && mayBenchP x.se.xs

theorem pairs_held {base : Nat} {w : World} {l : Lst (Int × Int)} (h : l.Held pairF 2 base w) : PairsAt w l.la l.xs := by
  obtain ⟨_, _, h0 | ⟨rb, ro, e, rl, rz, rc⟩⟩ := h
  · exact ⟨by rw [h0]; simp, .inl h0⟩
  · refine ⟨fun p hp => ?_, .inr ⟨rb, ro, e, rz, fun i p hp => ⟨(rc i p hp).get0 rfl, (rc i p hp).get 1 rfl⟩⟩⟩
    obtain ⟨i, hi⟩ := List.getElem?_of_mem hp
    exact ⟨(rc i p hi).goods.get 0 rfl, (rc i p hi).goods.get 1 rfl⟩



def isTx (k : Int) : Bool := decide (k = 2) || decide (k = 3)

def nSi (k : Int) : Int := if k = 9 then 1 else 0

def nPr (k : Int) : Int := if k = 10 then 1 else 0


end Go.Proofs.YtblnlfcfjbfhiaaGreat.W
