/- Which certs may be. -/
import Derived.Test.YtcpjcjonlkgblaaXThings
import Derived.Test.YtcpjcjonlkgblaaM29

namespace Go.Proofs.Ytcpjcjonlkgblaa.W
open Go.RowKit
set_option linter.unusedVariables false
set_option linter.unusedSimpArgs false

def riseI (least : Int) : List Int → Bool
  | [] => true
  | n :: r => if n < least then false else riseI (wrap64 (n + 1)) r

theorem hb1' {base : Nat} {w wv : World} (hb : Below w.heap.size w wv) (hb0 : base ≤ w.heap.size) (o : Obj) : Below base wv (wv.alloc o) := (Below.refl _ _).alloc (Nat.le_trans hb0 hb.size) _



theorem mayProof1_any (p d : Int) (w : World) : Calls Try.prog 86 #[.agg #[.int .i64 p, .int .u64 d]] w fun e w' => e = .returned (.int .i64 p) ∧ Below w.heap.size w w' := by
  go_enter Try.func86, Try.ntmps86
  go_wp2
  go_ret
  exact ⟨rfl, by first | exact Below.refl _ _ | exact (Below.refl _ _).alloc (Nat.le_refl _) _⟩



set_option maxHeartbeats 1600000 in
theorem riseTurn_anyX (base : Nat) (l : Lst Turn) (least : Int) (w : World) (hb0 : base ≤ w.heap.size) (hh : l.Held Turn.flds 2 base w) :
    Calls Try.prog 85 #[.slice l.la l.xs.length l.lc, .int .i64 least, .func (.func 86) #[] #[]] w fun e w' => e = .returned (.bool (riseI least (l.xs.map Turn.p))) ∧ Below w.heap.size w w' := by
  obtain ⟨la, lc, xs⟩ := l
  obtain ⟨hc, hcm, _⟩ := id hh
  simp only at hc hcm ⊢
  unfold maxLen at hcm
  go_enter Try.func85, Try.ntmps85
  go_wp2
  go_loopw [1, 8, 9, 12] (fun lv _ _ iv wv => ∃ (k : Nat) (t : Int), k ≤ xs.length ∧ iv = .int .i64 k ∧ lv = .int .i64 t ∧ Hid (riseI least (xs.map Turn.p) = riseI t ((xs.map Turn.p).drop k)) ∧ Below w.heap.size w wv) (fun _ _ _ iv _ => xs.length - (intOf iv).toNat)
  case atStart => exact ⟨0, least, Nat.zero_le _, rfl, rfl, rfl, Below.refl _ _⟩
  case round =>
    obtain ⟨k, t, hk, rfl, rfl, HR, hb⟩ := hrel
    by_cases hlt : k < xs.length
    · have hlt' : (k : Int) < (xs.length : Int) := by omega
      obtain ⟨_, _, h0 | ⟨rb, ro, e0, rl, rz, rc⟩⟩ := hh.below (hb.mono hb0)
      · simp only at h0; subst h0; simp at hlt
      simp only at e0 rc
      subst e0
      have rk := rc k (xs[k]'hlt) (List.getElem?_eq_getElem hlt)
      have HS : Hid (riseI t ((xs.map Turn.p).drop k) = if ((xs[k]'hlt).p) < t then false else riseI (wrap64 (((xs[k]'hlt).p) + 1)) ((xs.map Turn.p).drop (k + 1))) := by
        show _ = _
        rw [List.drop_eq_getElem_cons (by simpa using hlt)]; simp [riseI]
      obtain ⟨y, Hy⟩ : ∃ y : Turn, Hid (y = xs[k]'hlt) := ⟨xs[k]'hlt, rfl⟩
      rw [← Hy.out] at rk HS
      have e1 := rk.get0 rfl
      have e2 := rk.get 1 rfl
      simp only [Fld.val] at e1 e2
      have hyb : -9223372036854775808 ≤ y.p ∧ y.p ≤ 9223372036854775807 := rk.goods.get 0 rfl
      clear rc
      go_wp2_with fail
      refine (mayProof1_any y.p y.d _).mono ?_
      rintro e w1 ⟨rfl, b1⟩
      have hb1 := (hb.alloc hb.size (.cells #[.int .i64 y.p, .int .u64 y.d] 69))
      have hb2 := hb1.trans (b1.mono hb1.size)
      by_cases hless : y.p < t
      · have Hf : Hid (riseI least (xs.map Turn.p) = false) := HR.out.trans (HS.out.trans (if_pos hless))
        clear HR HS
        go_wp2
        go_ret
        exact ⟨by rw [Hf.out]; rfl, hb2⟩
      · have Hf : Hid (riseI least (xs.map Turn.p) = riseI (wrap64 (y.p + 1)) ((xs.map Turn.p).drop (k + 1))) := HR.out.trans (HS.out.trans (if_neg hless))
        clear HR HS
        go_wp2
        exact ⟨⟨k + 1, wrap64 (y.p + 1), by omega, by go_num, by first | rfl | (unfold wrap64; go_num), Hf, hb2⟩, by simp [intOf]; omega⟩
    · have Hf : Hid (riseI least (xs.map Turn.p) = true) := by
        show _ = _
        rw [HR.out, List.drop_of_length_le (by first | omega | (simp; omega))]; rfl
      have hge : ¬ (k : Int) < (xs.length : Int) := by omega
      clear HR
      go_wp2
      go_ret
      exact ⟨by rw [Hf.out]; rfl, hb⟩

def Cert.may (x : Cert) : Bool := !(decide (x.s ≠ 1) && decide (x.s ≠ 2)) && !(!x.has && decide (x.bl ≠ 0)) && riseI 1 x.fr.xs



end Go.Proofs.Ytcpjcjonlkgblaa.W

namespace Go.Proofs.Ytcpjcjonlkgblaa.W
open Go.RowKit
set_option linter.unusedVariables false
set_option linter.unusedSimpArgs false

def Proof.may (x : Proof) : Bool := if x.leaf = true then decide (x.val ≠ []) && riseI 0 (x.tu.xs.map Turn.p) else decide (x.tu.xs.length = 0) && decide (x.key = []) && decide (x.val = [])

set_option maxHeartbeats 1600000 in
theorem mayProof_anyX (x : Proof) (w : World) (g : goods w.heap.size w x.flds) : Calls Try.prog 68 #[.agg #[.slice x.tu.la x.tu.xs.length x.tu.lc, .bool x.leaf, .string ⟨x.key.toArray⟩, .string ⟨x.val.toArray⟩]] w fun e w' => e = .returned (.bool x.may) ∧ Below w.heap.size w w' := by
  have key : ∀ wv, Below w.heap.size w wv → Calls Try.prog 85 #[.slice x.tu.la x.tu.xs.length x.tu.lc, .int .i64 0, .func (.func 86) #[] #[]] wv fun e w' => e = .returned (.bool (riseI 0 (x.tu.xs.map Turn.p))) ∧ Below wv.heap.size wv w' := fun wv hv =>
    riseTurn_anyX w.heap.size x.tu 0 wv hv.size (Lst.held (flds := Turn.flds) (l := x.tu) Turn.len ((g.below hv).get 0 rfl))
  clear g
  obtain ⟨tu, leaf, ky, val⟩ := x
  simp only at key ⊢
  have bA : ∀ c, Below w.heap.size w (w.alloc (.cells c 25)) := fun c => (Below.refl _ _).alloc (Nat.le_refl _) _
  cases leaf
  · by_cases h0 : tu.xs.length = 0
    · have h0b : ((tu.xs.length : Int) == 0) = true := by simp [h0]
      have H0 := show Hid (_ = _) from h0
      clear h0
      cases ky with
      | nil =>
        cases val with
        | nil =>
          go_enter Try.func68, Try.ntmps68
          go_wp2
          go_ret
          exact ⟨by simp [Proof.may, H0.out], bA _⟩
        | cons c r =>
          go_enter Try.func68, Try.ntmps68
          go_wp2
          go_ret
          exact ⟨by simp [Proof.may, H0.out], bA _⟩
      | cons c r =>
        go_enter Try.func68, Try.ntmps68
        go_wp2
        go_ret
        exact ⟨by simp [Proof.may, H0.out], bA _⟩
    · have h0b : ((tu.xs.length : Int) == 0) = false := by simpa using h0
      have H0 : Hid (¬ tu.xs.length = 0) := h0
      clear h0
      go_enter Try.func68, Try.ntmps68
      go_wp2
      go_ret
      exact ⟨by have h : ¬ tu.xs.length = 0 := H0.out; simp only [Proof.may, h, decide_false, Bool.false_and]; rfl, bA _⟩
  · cases val with
    | nil =>
      go_enter Try.func68, Try.ntmps68
      go_wp2
      go_ret
      exact ⟨by simp [Proof.may], bA _⟩
    | cons c r =>
      go_enter Try.func68, Try.ntmps68
      go_wp2_with fail
      refine (key _ (bA _)).mono ?_
      rintro e w1 ⟨rfl, b1⟩
      go_wp2
      go_ret
      exact ⟨by simp [Proof.may], (bA _).trans (b1.mono (bA _).size)⟩

def Sight.may (x : Sight) : Bool := x.ce.may && mayBenchP x.se.xs

theorem pairs_held {base : Nat} {w : World} {l : Lst (Int × Int)} (h : l.Held pairF 2 base w) : PairsAt w l.la l.xs := by
  obtain ⟨_, _, h0 | ⟨rb, ro, e, rl, rz, rc⟩⟩ := h
  · exact ⟨by rw [h0]; simp, .inl h0⟩
  · refine ⟨fun p hp => ?_, .inr ⟨rb, ro, e, rz, fun i p hp => ⟨(rc i p hp).get0 rfl, (rc i p hp).get 1 rfl⟩⟩⟩
    obtain ⟨i, hi⟩ := List.getElem?_of_mem hp
    exact ⟨(rc i p hi).goods.get 0 rfl, (rc i p hi).goods.get 1 rfl⟩



def isTx (k : Int) : Bool := decide (k = 2) || decide (k = 3)

def nSi (k : Int) : Int := if k = 9 then 1 else 0

def nPr (k : Int) : Int := if k = 10 then 1 else 0


end Go.Proofs.Ytcpjcjonlkgblaa.W
