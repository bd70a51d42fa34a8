/- Both logs, given the same steps. -/
import Derived.Test.YtaifkidpdmhciaaGreatM49

namespace Go.Proofs.YtaifkidpdmhciaaGreat
open Go.RowKit
set_option linter.unusedVariables false
set_option linter.unusedSimpArgs false

theorem rlog_kp {w w' : World} {lb rb : Nat} {B : List UInt8} {sf lf kp : Int} {dn : Bool} (h : RLogAt w rb B sf lf kp dn) (K : Kp lb lb w w') (hne : rb ≠ lb) : RLogAt w' rb B sf lf kp dn := by
  have hs := Blk.safe (b := lb) h (by decide) hne
  have e := K.safe rb hs
  unfold RLogAt Blk at *
  rw [e]; exact h
theorem log_but {w w' : World} {lb rb : Nat} {B B' : List UInt8} {sf lf kp sf' lf' kp' : Int} {dn dn' : Bool} (h : LogAt w lb B sf dn lf kp) (hr : RLogAt w rb B' sf' lf' kp' dn') (hb : But (fun k => k = rb) w w') (hne : lb ≠ rb) : LogAt w' lb B sf dn lf kp := by
  obtain ⟨v, h1, h2⟩ := h
  exact ⟨v, hb.blk h1 hne, hb.owns h2 (fun g hg e => owns_ne h2 hr (by decide) (by rw [hg, show g = rb from e]))⟩
/-- Both logs: A was written, n bytes of its frames are there, sf of them safe. -/
structure Both (w0 w : World) (lb rb : Nat) (A : List Vk) (n sf : Nat) (dn : Bool) (lf kp lf' kp' : Int) : Prop where
  log : LogAt w lb ((frs A).take n) sf dn lf kp
  rlog : RLogAt w rb ((frs A).take n) sf lf' kp' dn
  n_le : n ≤ (frs A).length
  s_le : sf ≤ n
  up : dn = false → n = (frs A).length
  inl : InN lf
  ink : InN kp
  ink' : InN kp'
  left : lf' = if lf < 0 then 0 else lf
  keep : 1 ≤ lf → kp = kp'
  ok : ∀ a ∈ A, a.Ok
  few : A.length ≤ 512
  bel : Below w0.heap.size w0 w
  lb0 : w0.heap.size ≤ lb
  rb0 : w0.heap.size ≤ rb
  ne : lb ≠ rb
theorem Both.next {w0 w w1 : World} {lb rb : Nat} {A : List Vk} {n sf : Nat} {dn : Bool} {lf kp lf' kp' : Int} (h : Both w0 w lb rb A n sf dn lf kp lf' kp') (hb : Below w.heap.size w w1) : Both w0 w1 lb rb A n sf dn lf kp lf' kp' :=
  { h with log := h.log.below hb, rlog := Blk.below h.rlog hb h.rlog.lt, bel := h.bel.trans (hb.mono h.bel.size) }
theorem Both.inl' {w0 w : World} {lb rb : Nat} {A : List Vk} {n sf : Nat} {dn : Bool} {lf kp lf' kp' : Int} (h : Both w0 w lb rb A n sf dn lf kp lf' kp') : 0 ≤ lf' ∧ lf' ≤ 9223372036854775807 := by
  have h1 := h.left
  have h2 := h.inl
  unfold InN at h2
  split at h1 <;> omega
theorem Both.len {w0 w : World} {lb rb : Nat} {A : List Vk} {n sf : Nat} {dn : Bool} {lf kp lf' kp' : Int} (h : Both w0 w lb rb A n sf dn lf kp lf' kp') : ((frs A).take n).length = n ∧ n ≤ 200000 := by
  have h1 := h.n_le
  have h2 := frs_small A
  have h3 := h.few
  rw [List.length_take]
  omega
def Bo (w0 w : World) (lb rb i : Nat) : Prop := ∃ A n sf dn lf kp lf' kp', Both w0 w lb rb A n sf dn lf kp lf' kp' ∧ A.length ≤ i
theorem Bo.next {w0 w w1 : World} {lb rb i : Nat} (h : Bo w0 w lb rb i) (hb : Below w.heap.size w w1) : Bo w0 w1 lb rb i := by
  obtain ⟨A, n, sf, dn, lf, kp, lf', kp', H, hi⟩ := h
  exact ⟨A, n, sf, dn, lf, kp, lf', kp', H.next hb, hi⟩
theorem Bo.more {w0 w : World} {lb rb i j : Nat} (h : Bo w0 w lb rb i) (hij : i ≤ j) : Bo w0 w lb rb j := by
  obtain ⟨A, n, sf, dn, lf, kp, lf', kp', H, hi⟩ := h
  exact ⟨A, n, sf, dn, lf, kp, lf', kp', H, by omega⟩
theorem Bo.bel {w0 w : World} {lb rb i : Nat} (h : Bo w0 w lb rb i) : Below w0.heap.size w0 w := by
  obtain ⟨A, n, sf, dn, lf, kp, lf', kp', H, hi⟩ := h
  exact H.bel
theorem inN0 : InN 0 := by unfold InN; omega
theorem but_bel {w0 w w' : World} {rb : Nat} (h : Below w0.heap.size w0 w) (hb : But (fun k => k = rb) w w') (h0 : w0.heap.size ≤ rb) : Below w0.heap.size w0 w' :=
  h.trans (hb.below h.size (fun k hk => by have : k = rb := hk; omega))
theorem bel_kp {w0 w w' : World} {lb : Nat} (h : Below w0.heap.size w0 w) (K : Kp lb lb w w') (h0 : w0.heap.size ≤ lb) : Below w0.heap.size w0 w' := h.trans (K.below.mono h0)
/-- Behind an act of both. -/
theorem acted {w0 w w1 w2 : World} {lb rb : Nat} {A : List Vk} {sf : Nat} {lf kp lf' kp' : Int} {B' : List UInt8} {sf' l' k' : Int} {d' : Bool} (hok : ∀ a ∈ A, a.Ok) (few : A.length ≤ 512) (hs : sf ≤ (frs A).length) (inl : InN lf) (ink : InN kp) (ink' : InN kp') (left : lf' = if lf < 0 then 0 else lf) (keep : 1 ≤ lf → kp = kp')
    (bel : Below w0.heap.size w0 w) (lb0 : w0.heap.size ≤ lb) (rb0 : w0.heap.size ≤ rb) (ne : lb ≠ rb) (Ac : ActX lb (frs A) sf lf kp w w1) (R1 : RLogAt w1 rb B' sf' l' k' d') (Rc : RActX rb (frs A) sf lf' kp' w1 w2) (i : Nat) (hi : A.length ≤ i) : Bo w0 w2 lb rb i := by
  have b2 := but_bel (bel_kp bel Ac.kp_ lb0) Rc.but_ rb0
  have hd := dieN_bd sf (frs A).length kp hs
  by_cases h1 : lf = 1
  · have e1 : lf' = 1 := by rw [left, h1]; rfl
    have e2 := keep (by omega)
    have L := log_but (Ac.dies h1) R1 Rc.but_ ne
    have R := Rc.dies e1
    rw [← e2] at R
    exact ⟨A, dieN sf (frs A).length kp, dieN sf (frs A).length kp, true, 0, 0, 0, kp, ⟨L, R, hd.2, Nat.le_refl _, (fun q => by cases q), inN0, inN0, ink, rfl, (fun q => by omega), hok, few, b2, lb0, rb0, ne⟩, hi⟩
  · have e1 : lf' ≠ 1 := by rw [left]; split <;> omega
    have L := log_but (Ac.not_ h1) R1 Rc.but_ ne
    have R := Rc.not_ e1
    refine ⟨A, (frs A).length, sf, false, if lf < 1 then lf else lf - 1, kp, if lf' < 1 then lf' else lf' - 1, kp', ⟨by rw [List.take_length]; exact L, by rw [List.take_length]; exact R, Nat.le_refl _, hs, fun _ => rfl, ?_, ink, ink', ?_, ?_, hok, few, b2, lb0, rb0, ne⟩, hi⟩
    · unfold InN at *
      split <;> omega
    · rw [left]
      by_cases q0 : lf < 0
      · simp only [if_pos q0, if_pos (show lf < 1 by omega), if_pos (show (0 : Int) < 1 by omega)]
      · rw [if_neg q0]
        by_cases q1 : lf < 1
        · rw [if_pos q1, if_neg q0]
        · rw [if_neg q1, if_neg (by omega)]
    · intro q
      apply keep
      split at q <;> omega

/-- Sync of both. -/
def SyncTwo (w0 : World) (lb rb i : Nat) (e : Ending) (w1 : World) : Prop :=
  ∃ E : Int, e = .returned (.int .i64 E) ∧ Calls Tryz.prog 7 #[.pointer (some ⟨rb, 0, none⟩)] w1 fun e2 w2 => e2 = .returned (.int .i64 E) ∧ Bo w0 w2 lb rb i
theorem Bo.sync {w0 w : World} {lb rb i : Nat} (h : Bo w0 w lb rb i) : Calls Tryz.prog 6 #[.pointer (some ⟨lb, 0, none⟩)] w fun e w1 => SyncTwo w0 lb rb i e w1 := by
  obtain ⟨A, n, sf, dn, lf, kp, lf', kp', H, hi⟩ := h
  have hle := H.len
  have hs := H.s_le
  refine (sync_any lb _ sf dn lf kp w H.log (by omega) (by omega) H.inl H.ink).mono ?_
  intro e w1 hh
  rcases hh with ⟨rfl, rfl, rfl⟩ | ⟨rfl, h1, rfl, Ac⟩ | ⟨rfl, h1, rfl, Ac⟩
  · refine ⟨27, rfl, (rsync_any rb _ sf true lf' kp' w H.rlog (by omega) (by omega) H.inl' H.ink').mono ?_⟩
    intro e2 w2 hh
    rcases hh with ⟨_, rfl, rfl⟩ | ⟨q, _⟩ | ⟨q, _⟩
    · exact ⟨rfl, A, n, sf, true, lf, kp, lf', kp', H, hi⟩
    · cases q
    · cases q
  · obtain rfl := H.up rfl
    have R1 := rlog_kp H.rlog Ac.kp_ (Ne.symm H.ne)
    have e1 : lf' = 1 := by rw [H.left, h1]; rfl
    refine ⟨27, rfl, (rsync_any rb _ sf false lf' kp' w1 R1 (by omega) (by omega) H.inl' H.ink').mono ?_⟩
    intro e2 w2 hh
    rcases hh with ⟨q, _⟩ | ⟨_, _, rfl, Rc⟩ | ⟨_, q, _⟩
    · cases q
    · rw [List.take_length] at Ac Rc
      exact ⟨rfl, acted H.ok H.few H.s_le H.inl H.ink H.ink' H.left H.keep H.bel H.lb0 H.rb0 H.ne Ac R1 Rc i hi⟩
    · exact absurd e1 q
  · obtain rfl := H.up rfl
    have R1 := rlog_kp H.rlog Ac.kp_ (Ne.symm H.ne)
    have e1 : lf' ≠ 1 := by rw [H.left]; split <;> omega
    refine ⟨0, rfl, (rsync_any rb _ sf false lf' kp' w1 R1 (by omega) (by omega) H.inl' H.ink').mono ?_⟩
    intro e2 w2 hh
    rcases hh with ⟨q, _⟩ | ⟨_, q, _⟩ | ⟨_, _, rfl, Rc⟩
    · cases q
    · exact absurd q e1
    · rw [List.take_length] at Ac Rc
      exact ⟨rfl, acted H.ok H.few (Nat.le_refl _) H.inl H.ink H.ink' H.left H.keep H.bel H.lb0 H.rb0 H.ne Ac R1 Rc i hi⟩

/-- Arm of both. -/
def ArmTwo (w0 : World) (lb rb i : Nat) (a b : Int) (e : Ending) (w1 : World) : Prop :=
  e = .returned (.tuple #[]) ∧ Calls Tryz.prog 9 #[.pointer (some ⟨rb, 0, none⟩), .int .i64 a, .int .i64 b] w1 fun e2 w2 => e2 = .returned (.tuple #[]) ∧ Bo w0 w2 lb rb i
theorem Bo.arm {w0 w : World} {lb rb i : Nat} (h : Bo w0 w lb rb i) (a b : Int) (ha : InN a) (hb : InN b) : Calls Tryz.prog 8 #[.pointer (some ⟨lb, 0, none⟩), .int .i64 a, .int .i64 b] w fun e w1 => ArmTwo w0 lb rb i a b e w1 ∧ Kp lb lb w w1 := by
  obtain ⟨A, n, sf, dn, lf, kp, lf', kp', H, hi⟩ := h
  refine (arm_any lb _ sf dn lf kp a b w H.log).mono ?_
  rintro e w1 ⟨rfl, L1, K1⟩
  have R1 := rlog_kp H.rlog K1 (Ne.symm H.ne)
  refine ⟨⟨rfl, (rarm_any rb _ sf lf' kp' dn a b w1 R1).mono ?_⟩, K1⟩
  rintro e2 w2 ⟨rfl, R2, B2⟩
  have L2 := log_but L1 R1 B2 H.ne
  exact ⟨rfl, A, n, sf, dn, a, b, _, b, ⟨L2, R2, H.n_le, H.s_le, H.up, ha, hb, hb, rfl, fun _ => rfl, H.ok, H.few, but_bel (bel_kp H.bel K1 H.lb0) B2 H.rb0, H.lb0, H.rb0, H.ne⟩, hi⟩

/-- Die of both. -/
def DieTwo (w0 : World) (lb rb i : Nat) (a : Int) (e : Ending) (w1 : World) : Prop :=
  e = .returned (.tuple #[]) ∧ Calls Tryz.prog 11 #[.pointer (some ⟨rb, 0, none⟩), .int .i64 a] w1 fun e2 w2 => e2 = .returned (.tuple #[]) ∧ Bo w0 w2 lb rb i
theorem Bo.die {w0 w : World} {lb rb i : Nat} (h : Bo w0 w lb rb i) (a : Int) (ha : InN a) : Calls Tryz.prog 10 #[.pointer (some ⟨lb, 0, none⟩), .int .i64 a] w fun e w1 => DieTwo w0 lb rb i a e w1 ∧ Kp lb lb w w1 := by
  obtain ⟨A, n, sf, dn, lf, kp, lf', kp', H, hi⟩ := h
  have hle := H.len
  have hs := H.s_le
  cases dn
  · obtain rfl := H.up rfl
    have hL := H.log
    have hR := H.rlog
    rw [List.take_length] at hL hR
    refine (die_any lb _ sf false lf kp a w hL hs (by omega) ha).mono ?_
    rintro e w1 ⟨rfl, L1, K1⟩
    have R1 := rlog_kp hR K1 (Ne.symm H.ne)
    refine ⟨⟨rfl, (rdie_any rb _ sf lf' kp' a w1 R1 hs (by omega) ha).mono ?_⟩, K1⟩
    rintro e2 w2 ⟨rfl, R2, B2⟩
    have L2 := log_but L1 R1 B2 H.ne
    have hd := dieN_bd sf (frs A).length a hs
    exact ⟨rfl, A, dieN sf (frs A).length a, dieN sf (frs A).length a, true, 0, 0, 0, kp', ⟨L2, R2, hd.2, Nat.le_refl _, (fun q => by cases q), inN0, inN0, H.ink', rfl, (fun q => by omega), H.ok, H.few, but_bel (bel_kp H.bel K1 H.lb0) B2 H.rb0, H.lb0, H.rb0, H.ne⟩, hi⟩
  · refine (die_down lb _ sf lf kp a w H.log).mono ?_
    rintro e w1 ⟨rfl, rfl⟩
    refine ⟨⟨rfl, (rdie_down rb _ sf lf' kp' a w H.rlog).mono ?_⟩, Kp.refl _ _ _⟩
    rintro e2 w2 ⟨rfl, rfl⟩
    exact ⟨rfl, A, n, sf, true, lf, kp, lf', kp', H, hi⟩

/-- Append of both. -/
def AppTwo (w0 : World) (lb rb i : Nat) (C : Array Value) (e : Ending) (w1 : World) : Prop :=
  ∃ E : Int, e = .returned (.int .i64 E) ∧ Calls Tryz.prog 16 #[.pointer (some ⟨rb, 0, none⟩), .agg C] w1 fun e2 w2 => e2 = .returned (.int .i64 E) ∧ But (fun k => k = rb) w1 w2 ∧ Bo w0 w2 lb rb i
theorem Bo.append {w0 w : World} {lb rb i : Nat} (h : Bo w0 w lb rb i) (hi5 : i < 512) (k : Int) (v : Vk) (hk : InN k) (h1 : InN v.h) (h2 : InN v.r) (h3 : InN v.s) (h4 : InD v.bl) (h5 : InN v.f) :
    Calls Tryz.prog 15 #[.pointer (some ⟨lb, 0, none⟩), .agg (recK k v).arr] w fun e w1 => AppTwo w0 lb rb (i + 1) (recK k v).arr e w1 ∧ Kp lb lb w w1 := by
  obtain ⟨A, n, sf, dn, lf, kp, lf', kp', H, hi⟩ := h
  have hle := H.len
  have hs := H.s_le
  have PW := wput_recK k v hk h1 h2 h3 h4 h5
  have PR := rput_recK k v hk h1 h2 h3 h4 h5
  rcases recK_out k v hk h1 h2 h3 h4 h5 with ⟨rfl, hv, e0, eb⟩ | hE
  · rw [e0, eb] at PW PR
    rw [recK_arr] at PW PR ⊢
    have hfa : frs (A ++ [v]) = frs A ++ v.fr := by rw [frs_app, frs_cons, frs_nil, List.append_nil]
    have hok : ∀ a ∈ A ++ [v], a.Ok := fun a ha => by
      rcases List.mem_append.1 ha with q | q
      · exact H.ok a q
      · simp at q; subst q; exact hv
    refine (append_any lb _ sf dn lf kp v w (fun w' _ => PW w') H.log (by omega) (by omega) H.inl H.ink).mono ?_
    intro e w1 hh
    rcases hh with ⟨rfl, rfl, L1, K1⟩ | ⟨rfl, hh⟩
    · have R1 := rlog_kp H.rlog K1 (Ne.symm H.ne)
      refine ⟨⟨27, rfl, (rappend_any rb _ sf true lf' kp' v w1 (fun w' _ => PR w') R1 (by omega) (by omega) H.inl' H.ink').mono ?_⟩, K1⟩
      intro e2 w2 hh
      rcases hh with ⟨_, rfl, B2⟩ | ⟨q, _⟩
      · have H1 : Both w0 w1 lb rb A n sf true lf kp lf' kp' := { H with log := L1, rlog := R1, bel := bel_kp H.bel K1 H.lb0 }
        exact ⟨rfl, But.of_below B2, A, n, sf, true, lf, kp, lf', kp', H1.next B2, by omega⟩
      · cases q
    · obtain rfl := H.up rfl
      rcases hh with ⟨q1, rfl, Ac⟩ | ⟨q1, rfl, Ac⟩
      · have R1 := rlog_kp H.rlog Ac.kp_ (Ne.symm H.ne)
        have e1 : lf' = 1 := by rw [H.left, q1]; rfl
        refine ⟨⟨27, rfl, (rappend_any rb _ sf false lf' kp' v w1 (fun w' _ => PR w') R1 (by omega) (by omega) H.inl' H.ink').mono ?_⟩, Ac.kp_⟩
        intro e2 w2 hh
        rcases hh with ⟨q, _⟩ | ⟨_, ⟨_, rfl, Rc⟩ | ⟨q, _⟩⟩
        · cases q
        · rw [List.take_length, ← hfa] at Ac Rc
          exact ⟨rfl, Rc.but_, acted hok (by simp; omega) (by rw [hfa, List.length_append]; omega) H.inl H.ink H.ink' H.left H.keep H.bel H.lb0 H.rb0 H.ne Ac R1 Rc (i + 1) (by simp; omega)⟩
        · exact absurd e1 q
      · have R1 := rlog_kp H.rlog Ac.kp_ (Ne.symm H.ne)
        have e1 : lf' ≠ 1 := by rw [H.left]; split <;> omega
        refine ⟨⟨0, rfl, (rappend_any rb _ sf false lf' kp' v w1 (fun w' _ => PR w') R1 (by omega) (by omega) H.inl' H.ink').mono ?_⟩, Ac.kp_⟩
        intro e2 w2 hh
        rcases hh with ⟨q, _⟩ | ⟨_, ⟨q, _⟩ | ⟨_, rfl, Rc⟩⟩
        · cases q
        · exact absurd q e1
        · rw [List.take_length, ← hfa] at Ac Rc
          exact ⟨rfl, Rc.but_, acted hok (by simp; omega) (by rw [hfa, List.length_append]; omega) H.inl H.ink H.ink' H.left H.keep H.bel H.lb0 H.rb0 H.ne Ac R1 Rc (i + 1) (by simp; omega)⟩
  · refine (append_bad lb _ rfl _ _ hE w (fun w' _ => PW w')).mono ?_
    rintro e w1 ⟨rfl, B1⟩
    refine ⟨⟨_, rfl, (rappend_bad rb _ rfl _ _ hE w1 (fun w' _ => PR w')).mono ?_⟩, Kp.of_below B1 (Nat.le_of_lt H.log.lt)⟩
    rintro e2 w2 ⟨rfl, B2⟩
    exact ⟨rfl, But.of_below B2, A, n, sf, dn, lf, kp, lf', kp', (H.next B1).next B2, by omega⟩

/-- Begin of both. -/
def BegTwo2 (w0 : World) (lb rb i b1 b2 : Nat) (rv : Value) (e : Ending) (w2 : World) : Prop :=
  ∃ (rv' : Value) (A : List Vk), e = .returned rv' ∧ w2.ownsRow b1 57 38 rv A.length (flatR A) ∧ w2.ownsRow b2 57 38 rv' A.length (flatR A) ∧ (∀ a ∈ A, a.Ok) ∧ A.length ≤ 512 ∧ Bo w0 w2 lb rb i
def BegTwo (w0 : World) (lb rb i b1 : Nat) (e : Ending) (w1 : World) : Prop :=
  ∃ rv : Value, e = .returned rv ∧ Calls Tryz.prog 13 #[.pointer (some ⟨rb, 0, none⟩)] w1 fun e2 w2 => BegTwo2 w0 lb rb i b1 w1.heap.size rv e2 w2
theorem Bo.begin {w0 w : World} {lb rb i : Nat} (h : Bo w0 w lb rb i) : Calls Tryz.prog 12 #[.pointer (some ⟨lb, 0, none⟩)] w fun e w1 => BegTwo w0 lb rb i w.heap.size e w1 := by
  obtain ⟨A, n, sf, dn, lf, kp, lf', kp', H, hi⟩ := h
  refine (begin_rest lb A n sf dn lf kp w H.log H.ok H.few H.n_le H.s_le H.inl H.ink).mono ?_
  rintro e w1 ⟨rv, l1, k1, rfl, orv, L1, q1, q2, K1⟩
  have R1 := rlog_kp H.rlog K1 (Ne.symm H.ne)
  refine ⟨rv, rfl, (rbegin_any rb A n sf dn lf' kp' w1 R1 H.ok H.few H.n_le H.s_le (fun a ha => ⟨_, fun w' => rput_ok a (H.ok a ha) w'⟩)).mono ?_⟩
  rintro e2 w2 ⟨rv', l2, k2, rfl, orv', R2, q3, q4, B2⟩
  have L2 := log_but L1 R1 B2 H.ne
  have hw := whole_le A n
  have hlen : (A.take (whole A n)).length = whole A n := by rw [List.length_take]; omega
  have hrb := H.rlog.lt
  have orv2 := B2.owns orv (fun g hg e => by have := (orv.lt g hg).1; have e' : g = rb := e; omega)
  have hok : ∀ a ∈ A.take (whole A n), a.Ok := fun a ha => H.ok a (List.mem_of_mem_take ha)
  have hfew : (A.take (whole A n)).length ≤ 512 := by have := H.few; omega
  have hc : (l1 = lf ∧ k1 = kp ∧ l2 = lf' ∧ k2 = kp') ∨ (l1 = 0 ∧ k1 = 0 ∧ l2 = 0 ∧ k2 = kp') := by
    cases dn
    · exact .inr ⟨(q2 rfl).1, (q2 rfl).2, (q4 rfl).1, (q4 rfl).2⟩
    · exact .inl ⟨(q1 rfl).1, (q1 rfl).2, (q3 rfl).1, (q3 rfl).2⟩
  have c1 : InN l1 ∧ InN k1 ∧ InN k2 ∧ l2 = (if l1 < 0 then 0 else l1) ∧ (1 ≤ l1 → k1 = k2) := by
    rcases hc with ⟨e1, e2, e3, e4⟩ | ⟨e1, e2, e3, e4⟩
    · rw [e1, e2, e3, e4]; exact ⟨H.inl, H.ink, H.ink', H.left, H.keep⟩
    · rw [e1, e2, e3, e4]; exact ⟨inN0, inN0, H.ink', rfl, fun q => by omega⟩
  obtain ⟨c1, c2, c3, c4, c5⟩ := c1
  exact ⟨rv', A.take (whole A n), rfl, by rw [hlen]; exact orv2, by rw [hlen]; exact orv', hok, hfew, A.take (whole A n), (frs (A.take (whole A n))).length, (frs (A.take (whole A n))).length, false, l1, k1, l2, k2, ⟨by rw [List.take_length]; exact L2, by rw [List.take_length]; exact R2, Nat.le_refl _, Nat.le_refl _, fun _ => rfl, c1, c2, c3, c4, c5, hok, hfew, but_bel (bel_kp H.bel K1 H.lb0) B2 H.rb0, H.lb0, H.rb0, H.ne⟩, by omega⟩
end Go.Proofs.YtaifkidpdmhciaaGreat

namespace Go.Proofs.YtaifkidpdmhciaaGreat
open Go.RowKit
set_option linter.unusedVariables false
set_option linter.unusedSimpArgs false

set_option maxRecDepth 8000 in
set_option maxHeartbeats 3200000 in
theorem sameRecords_any (A : List Vk) (hA : ∀ a ∈ A, a.Ok) (hl : A.length ≤ 512) (b1 b2 : Nat) (rv rv' : Value) (w : World) (o1 : w.ownsRow b1 57 38 rv A.length (flatR A)) (o2 : w.ownsRow b2 57 38 rv' A.length (flatR A)) :
    Calls Tryz.prog 14 #[rv, rv'] w fun e w' => e = .returned (.bool true) ∧ Below w.heap.size w w' := by
  obtain ⟨a1, c1, rfl⟩ := owns_form o1
  obtain ⟨a2, c2, rfl⟩ := owns_form o2
  go_enter Tryz.func14, Tryz.ntmps14
  go_wp2_with fail
  go_loopw [5] (fun kv w5 => ∃ k : Nat, k ≤ A.length ∧ kv = .int .i64 k ∧ Below w.heap.size w w5) (fun kv _ => A.length - (intOf kv).toNat)
  case atStart => exact ⟨0, Nat.zero_le _, rfl, Below.refl _ _⟩
  case round =>
          obtain ⟨k, hk, rfl, hb5⟩ := hrel
          by_cases hkl : k < A.length
          · have hkl' : (k : Int) < (A.length : Int) := by omega
            obtain ⟨g, cap, eg, hg, hc⟩ := owns_chunk (f := fun v : Vk => v.rc.toList) rc_len rfl (owns_below o1 hb5) hkl
            obtain ⟨g2, cap2, eg2, hg2, hc2⟩ := owns_chunk (f := fun v : Vk => v.rc.toList) rc_len rfl (owns_below o2 hb5) hkl
            simp only [Value.slice.injEq, true_and] at eg eg2
            obtain ⟨rfl, rfl⟩ := eg
            obtain ⟨rfl, rfl⟩ := eg2
            have hv := hA _ (List.getElem_mem hkl)
            generalize A[k]'hkl = v at *
            have KP := rput_ok v hv
            have hCn : v.rc.size = 38 := rfl
            have hr1 : wr.rangeAt g (k * 38) v.rc.toList := fun j u hu => hc j u hu
            have hr2 : wr.rangeAt g2 (k * 38) v.rc.toList := fun j u hu => hc2 j u hu
            clear hc hc2 hv
            generalize v.rc = C at *
            generalize v.body = D at *
            have HO := show Hid (_ ∧ _) from ⟨o1, o2⟩
            clear o1 o2
            go_upto_region 6 with fail
            refine wp_region_list ?_
            refine wpList_plain rfl (fun K hK => ?_)
            go_simp
            refine hK _ _ ?_
            clear hK K
            refine wpList_plain rfl (fun K hK => ?_)
            go_simp
            refine hK _ _ ?_
            clear hK K
            refine wpList_plain rfl (fun K hK => ?_)
            go_simp
            refine hK _ _ ?_
            clear hK K
            refine wpList_load_mid rfl 57 _ rfl g (k * 38) rfl C.toList _ hr1 Tryz.underlying57 rfl (by rw [Array.length_toList, hCn]; kernel_rfl) ?_
            rw [Array.toArray_toList]
            refine wpList_plain rfl (fun K hK => ?_)
            go_simp
            refine (KP wr).mono ?_
            rintro e w6 ⟨rfl, b6⟩
            refine hK _ _ ?_
            clear hK K
            refine wpList_plain rfl (fun K hK => ?_)
            go_simp
            refine hK _ _ ?_
            clear hK K
            refine wpList_plain rfl (fun K hK => ?_)
            go_simp
            refine hK _ _ ?_
            clear hK K
            refine wpList_plain rfl (fun K hK => ?_)
            go_simp
            refine hK _ _ ?_
            clear hK K
            refine wpList_plain rfl (fun K hK => ?_)
            go_simp
            refine hK _ _ ?_
            clear hK K
            refine wpList_plain rfl (fun K hK => ?_)
            go_simp
            refine hK _ _ ?_
            clear hK K
            refine wpList_nil ?_
            simp only [Exit.then]
            have hr3 : w6.rangeAt g2 (k * 38) C.toList := fun j u hu => by
              rw [b6.cell (p := ⟨g2, k * 38 + j, none⟩) hg2]
              exact hr2 j u hu
            have hb6 := hb5.trans (b6.mono hb5.size)
            clear hr1 hr2 hb5 b6
            go_upto_region 7 with fail
            refine wp_region_list ?_
            refine wpList_plain rfl (fun K hK => ?_)
            go_simp
            refine hK _ _ ?_
            clear hK K
            refine wpList_plain rfl (fun K hK => ?_)
            go_simp
            refine hK _ _ ?_
            clear hK K
            refine wpList_plain rfl (fun K hK => ?_)
            go_simp
            refine hK _ _ ?_
            clear hK K
            refine wpList_load_mid rfl 57 _ rfl g2 (k * 38) rfl C.toList _ hr3 Tryz.underlying57 rfl (by rw [Array.length_toList, hCn]; kernel_rfl) ?_
            rw [Array.toArray_toList]
            refine wpList_plain rfl (fun K hK => ?_)
            go_simp
            refine (KP w6).mono ?_
            rintro e w7 ⟨rfl, b7⟩
            refine hK _ _ ?_
            clear hK K
            refine wpList_plain rfl (fun K hK => ?_)
            go_simp
            refine hK _ _ ?_
            clear hK K
            refine wpList_plain rfl (fun K hK => ?_)
            go_simp
            refine hK _ _ ?_
            clear hK K
            refine wpList_plain rfl (fun K hK => ?_)
            go_simp
            refine hK _ _ ?_
            clear hK K
            refine wpList_plain rfl (fun K hK => ?_)
            go_simp
            refine hK _ _ ?_
            clear hK K
            refine wpList_plain rfl (fun K hK => ?_)
            go_simp
            refine hK _ _ ?_
            clear hK K
            refine wpList_nil ?_
            simp only [Exit.then]
            have hb7 := hb6.trans (b7.mono hb6.size)
            clear hr3 hb6 b7 KP
            go_wp2
            exact ⟨⟨k + 1, by omega, by go_num, hb7⟩, by simp [intOf]; omega⟩
          · have hge : ¬ (k : Int) < (A.length : Int) := by omega
            go_wp2
            go_ret
            exact ⟨rfl, hb5⟩

set_option maxHeartbeats 800000 in
theorem bytes_any (lb : Nat) (B : List UInt8) (sf : Int) (dn : Bool) (lf kp : Int) (w : World) (H : LogAt w lb B sf dn lf kp) :
    Calls Tryz.prog 17 #[.pointer (some ⟨lb, 0, none⟩)] w fun e w' => e = .returned (.tuple #[.string ⟨B.toArray⟩, .int .i64 sf]) ∧ Below w.heap.size w w' := by
  obtain ⟨v, k2, o2⟩ := H
  obtain ⟨a, c, rfl⟩ := owns_form o2
  have c0 := (k2.cell 0).trans rfl
  have c1 := (k2.cell 1).trans rfl
  have z2 := k2.lt
  have hcv := conv_own (out := B) (owns_below o2 ((Below.refl w.heap.size w).drew))
  go_enter Tryz.func17, Tryz.ntmps17
  go_wp2_with fail
  go_region
  go_wp2
  exact bodyPost_ret (v := .tuple #[.string ⟨B.toArray⟩, .int .i64 sf]) (by simp [results, Tryz.results17]) rfl ⟨rfl, (Below.refl _ _).drew⟩
end Go.Proofs.YtaifkidpdmhciaaGreat
