import Derived.Test.YtemjajljpoaioaaDoorYTc
namespace Go.Proofs.YtemjajljpoaioaaDoor
open Go.RowKit
set_option linter.unusedVariables false
set_option linter.unusedSimpArgs false
set_option maxRecDepth 20000
set_option maxHeartbeats 8000000
theorem fi_all {np nn nb : Nat} {lo : Int} {i : Ins} (hnp : np ≤ 32) (hlo : lo ≤ 32) (hnb : nb ≤ 2048) (h : fiB np nn nb lo i = true) : (1 ≤ i.op ∧ i.op ≤ 30) ∧ (0 ≤ i.a ∧ i.a ≤ mx) ∧ 0 ≤ i.b ∧ i.b ≤ nn := by
 unfold fiB at h
 simp only [Bool.and_eq_true, decide_eq_true_eq] at h
 obtain ⟨h1, ⟨⟨h2, h3⟩, h4⟩, h5⟩ := h
 have h1 : 1 ≤ i.op ∧ i.op ≤ 30 := by simpa [isI] using h1
 refine ⟨h1, ⟨h2, ?_⟩, h4, ?_⟩
 ·have : endA np nb lo (ka i.op.toNat) ≤ 1099511627776 := by unfold endA; repeat (first | omega | split)
  unfold mx
  omega
 ·have : endB nn (ka i.op.toNat) = nn ∨ endB nn (ka i.op.toNat) = 1 := by unfold endB; split <;> simp
  omega
theorem Fb.rg {np nn : Nat} {lo : Int} {ps : List Pc} {b : List Ins} (F : Fb np nn lo ps b) (hnp : np ≤ 32) (hnn : nn ≤ 9223372036854775807) (hlo : lo ≤ 32) (hb : b.length ≤ 2048) : ∀ i ∈ b, RgI i := fun i hi => by
 obtain ⟨h1, h2, h3⟩ := fi_all hnp hlo hb (F.fm i hi)
 unfold mx at h2
 exact ⟨by omega, by omega, by omega⟩
theorem Fb.sm {np nn : Nat} {lo : Int} {ps : List Pc} {b : List Ins} (F : Fb np nn lo ps b) (hnp : np ≤ 32) (hlo : lo ≤ 32) (hb : b.length ≤ 2048) : SmI b := fun i hi => (fi_all hnp hlo hb (F.fm i hi)).2.1
set_option maxRecDepth 20000 in
set_option maxHeartbeats 8000000 in
theorem ttid_m {np nn : Nat} {lo : Int} {ps : List Pc} {w0 : World} {rb ro lc : Nat} {xs : List Ins} (HB : Body w0 rb ro xs) (G : Fb np nn lo ps xs) (hp : ∀ q ∈ ps, 0 ≤ q.pa) (hnp : np ≤ 32) (hnn : nn ≤ 9223372036854775807) (hlo : lo ≤ 32) : Calls Tryd.prog 13 ([.slice (some ⟨rb, ro, none⟩) xs.length lc] : List Value).toArray w0 fun e w' => (∃ y k, tidP k xs = some y ∧ BodyQ w0 w' e y) ∧ Below w0.heap.size w0 w' := by
 have M := bx_begin (w0 := w0) (w := w0) (Below.refl _ _)
 refine sw_fn Tryd.func13 rfl 13 Tryd.ntmps13 rfl fun A F => ?_
 refine sw_seq ?_
 refine sw_reg ?_
 refine sw_asg F ⟨rfl, rfl, rfl⟩ rfl rfl fun A F => ?_
 refine sw_end ?_
 show Code.wp _ _ _ _ _
 refine wp_block ?_
 refine wp_loopN (fun n A w => ∃ b : (List Ins), ∃ rb : Nat, ∃ ro : Nat, ∃ lc : Nat, (lft b ≤ n) ∧ (Body w rb ro b) ∧ (Fb np nn lo ps b) ∧ (∀ m y, tidP m b = some y → ∃ k, tidP k xs = some y) ∧ Fm 13 [(0, .slice (some ⟨rb, ro, none⟩) b.length lc)] A ∧ Mm (Bx w0) (fun _ => False) w0 [] () w) (lft xs) ?_ ?_
 ·exact ⟨xs, rb, ro, lc, (Nat.le_refl _), (HB), (G), (fun m y h => ⟨m, h⟩), F.keep [0] rfl, M⟩
 repeat clear F
 repeat clear M
 clear HB G
 rintro n A w ⟨b, rb, ro, lc, hm, HB, G, htid, F, M⟩
 refine wp_block ?_
 refine sw_seq ?_
 refine sw_reg ?_
 refine sw_move F ⟨rfl, rfl, rfl⟩ rfl rfl fun A F => ?_
 refine sw_callR (by kernel_rfl) (tstr_m (lc := lc) HB G.lds) F ⟨rfl, rfl, rfl⟩ rfl rfl ?_
 rintro _ w ⟨⟨g1, c1, rfl, H1, hg1, hc1⟩, hb⟩
 refine ⟨_, rfl, fun A F => ?_⟩
 replace hg1 := Nat.le_trans M.mem.le hg1
 replace HB := HB.bx hb
 replace M := M.aft hb
 clear hb
 have G1 := strt_fb G
 refine sw_callR (by kernel_rfl) (trch_m (lc := c1) H1 G1.lds G1.ways (G1.rg hnp hnn hlo H1.le)) F ⟨rfl, rfl, rfl⟩ rfl rfl ?_
 rintro _ w ⟨⟨g2, c2, rfl, H2, hg2, hc2⟩, hb⟩
 refine ⟨_, rfl, fun A F => ?_⟩
 replace hg2 := Nat.le_trans M.mem.le hg2
 replace HB := HB.bx hb
 replace M := M.aft hb
 clear hb
 obtain ⟨G2, hway⟩ := rchd_fb G1
 obtain ⟨hh, X⟩ := px_of G2 hp hway
 refine sw_callR (by kernel_rfl) (tprs_m (lc := c2) H2 X (G2.rg hnp hnn hlo H2.le) (G2.sm hnp hlo H2.le)) F ⟨rfl, rfl, rfl⟩ rfl rfl ?_
 rintro _ w ⟨⟨g3, c3, rfl, H3, hg3, hc3⟩, hb⟩
 refine ⟨_, rfl, fun A F => ?_⟩
 replace hg3 := Nat.le_trans M.mem.le hg3
 replace HB := HB.bx hb
 replace M := M.aft hb
 clear hb
 change Body w g3 0 (rndP b) at H3
 rw [show prsd (rchd (strt b)) = rndP b from rfl] at F
 obtain ⟨G3, hl3⟩ := G.rnd hp
 refine sw_asg F ⟨rfl, rfl, rfl⟩ rfl rfl fun A F => ?_
 refine sw_end ?_
 show Code.wp _ _ _ _ _
 refine sw_seq ?_
 refine sw_seq ?_
 refine sw_reg ?_
 refine sw_move F ⟨rfl, rfl, rfl⟩ rfl rfl fun A F => ?_
 refine sw_move F ⟨rfl, rfl, rfl⟩ rfl rfl fun A F => ?_
 refine sw_callR (by kernel_rfl) (teq_m (lc := c3) (ld := lc) H3 HB) F ⟨rfl, rfl, rfl⟩ rfl rfl ?_
 rintro _ w ⟨rfl, hb⟩
 refine ⟨_, rfl, fun A F => ?_⟩
 replace H3 := H3.bx hb
 replace M := M.aft hb
 clear hb
 refine sw_end ?_
 show Code.wp _ _ _ _ _
 refine sw_cond F rfl (fun hc1 => ?_) (fun hc1 => ?_)
 ·skip
  have hq : rndP b = b := by simpa using hc1
  refine sw_seq ?_
  refine sw_reg ?_
  refine sw_move F ⟨rfl, rfl, rfl⟩ rfl rfl fun A F => ?_
  refine sw_asg F ⟨rfl, rfl, rfl⟩ rfl rfl fun A F => ?_
  refine sw_end ?_
  show Code.wp _ _ _ _ _
  refine wp_ret ?_
  repeat (first | refine then_ret ?_ | refine block_ret ?_)
  obtain ⟨k, hk⟩ := htid 1 (rndP b) (by unfold tidP; rw [if_pos hq])
  exact sw_rettmp F Tryd.results13 rfl ⟨⟨rndP b, k, hk, g3, c3, rfl, H3, hg3, hc3⟩, M.st⟩
 ·skip
  have hq : rndP b ≠ b := by simpa using hc1
  refine wp_skip ?_
  show Code.wp _ _ _ _ _
  refine sw_reg ?_
  refine sw_move F ⟨rfl, rfl, rfl⟩ rfl rfl fun A F => ?_
  refine sw_asg F ⟨rfl, rfl, rfl⟩ rfl rfl fun A F => ?_
  refine sw_end ?_
  show ∃ _, _ ∧ _
  refine ⟨lft (rndP b), Nat.lt_of_lt_of_le (G.down hp hq) hm, rndP b, g3, 0, c3, Nat.le_refl _, H3, G3, fun m y h => htid (m + 1) y (by unfold tidP; rw [if_neg hq]; exact h), F.keep [0] rfl, M⟩
structure RI (ps : List Pc) (xs : List Ins) (hs : List Int) (ok : Bool) : Prop where
 len : hs.length = xs.length
 low : ∀ (k : Nat) (h : Int), hs[k]? = some h → -1 ≤ h
 high : ∀ (k : Nat) (h : Int), hs[k]? = some h → h + 2 * (unseenN hs : Int) ≤ 2 * (xs.length : Int)
 rch : ok = true → ∀ (k : Nat) (h : Int), hs[k]? = some h → 0 ≤ h → Rch ps xs k h
 bad : ok = false → ¬ Good ps xs
 zero : hs[0]? = some 0
def PD (ps : List Pc) (xs : List Ins) (hs : List Int) (i : Nat) : Prop := ∀ (k : Nat) (h : Int), k < i → hs[k]? = some h → 0 ≤ h → Done ps xs hs k h
structure KI (ps : List Pc) (xs : List Ins) (U i : Nat) (x : Int) (ins : Ins) (ts : List Nat) (hs : List Int) (ok again : Bool) (j : Nat) : Prop where
 ri : RI ps xs hs ok
 pos : hs[i]? = some x
 fit : ok = true → takesP ps ins ≤ x ∧ x ≤ 64 ∧ (ins.op = 17 → x = 1)
 pd : again = false → ok = true → PD ps xs hs i
 ks : again = false → ok = true → ∀ t ∈ ts.take j, hs[t]? = some (x - takesP ps ins + leavesP ins)
 me : unseenN hs + (if again = true then 1 else 0) ≤ U
theorem KI.start {ps : List Pc} {xs : List Ins} {U i : Nat} {x : Int} {ins : Ins} {ts : List Nat} {hs : List Int} {ok again : Bool} (R : RI ps xs hs ok) (hx : hs[i]? = some x) (h0 : 0 ≤ x) (hi : xs[i]? = some ins) (pd : again = false → ok = true → PD ps xs hs i) (me : unseenN hs + (if again = true then 1 else 0) ≤ U) :
  KI ps xs U i x ins ts hs (ok && decide (takesP ps ins ≤ x) && decide (x ≤ 64) && (decide (ins.op ≠ 17) || decide (x = 1))) again 0 := by
 refine ⟨⟨R.len, R.low, R.high, fun h => R.rch (by simp at h; exact h.1.1.1), fun h => ?_, R.zero⟩, hx, fun h => ?_, fun a h => pd a (by simp at h; exact h.1.1.1), fun _ _ t ht => by simp at ht, me⟩
 ·cases hok : ok
  ·exact R.bad hok
  ·have r := R.rch hok i x hx h0
   by_cases h1 : takesP ps ins ≤ x
   ·by_cases h2 : x ≤ 64
    ·have h3 : (decide (ins.op ≠ 17) || decide (x = 1)) = false := by simpa [hok, h1, h2] using h
     simp only [Bool.or_eq_false_iff, decide_eq_false_iff_not, ne_eq, Decidable.not_not] at h3
     exact not_good_back r hi h3.1 h3.2
    ·exact not_good_high r (by omega)
   ·exact not_good_low r hi (by omega)
 ·simp only [Bool.and_eq_true, Bool.or_eq_true, decide_eq_true_eq] at h
  exact ⟨h.1.1.2, h.1.2, fun e => h.2.elim (fun h => absurd e h) id⟩
theorem set_get {hs : List Int} {t : Nat} {n : Int} {k : Nat} {y : Int} (hl : t < hs.length) (h : (hs.set t n)[k]? = some y) : (k = t ∧ y = n) ∨ (k ≠ t ∧ hs[k]? = some y) := by
 rw [List.getElem?_set] at h
 by_cases e : t = k
 ·subst e
  simp [hl] at h
  exact .inl ⟨rfl, h.symm⟩
 ·simp [e] at h
  exact .inr ⟨fun e2 => e e2.symm, h⟩
theorem take_mem {ts : List Nat} {j t u : Nat} (hj : ts[j]? = some t) (hu : u ∈ ts.take (j + 1)) : u ∈ ts.take j ∨ u = t := by
 have e : ts.take (j + 1) = ts.take j ++ [t] := by rw [List.take_add_one, hj]; rfl
 rw [e] at hu
 simpa using hu
theorem KI.far {ps : List Pc} {xs : List Ins} {U i : Nat} {x : Int} {ins : Ins} {ts : List Nat} {hs : List Int} {ok again : Bool} {j t : Nat} (K : KI ps xs U i x ins ts hs ok again j) (h0 : 0 ≤ x) (hi : xs[i]? = some ins) (hg : t ∈ goOn i ins) (ht : xs.length ≤ t) : KI ps xs U i x ins ts hs false again (j + 1) := by
 refine ⟨⟨K.ri.len, K.ri.low, K.ri.high, fun h => by simp at h, fun _ => ?_, K.ri.zero⟩, K.pos, fun h => by simp at h, fun _ h => by simp at h, fun _ h => by simp at h, K.me⟩
 cases hok : ok
 ·exact K.ri.bad hok
 ·exact not_good_far (.step (K.ri.rch hok i x K.pos h0) hi hg) ht
theorem KI.new {ps : List Pc} {xs : List Ins} {U i : Nat} {x : Int} {ins : Ins} {ts : List Nat} {hs : List Int} {ok again : Bool} {j t : Nat} {y : Int} (K : KI ps xs U i x ins ts hs ok again j) (h0 : 0 ≤ x) (hi : xs[i]? = some ins) (hg : t ∈ goOn i ins) (hy : hs[t]? = some y) (hy0 : y < 0) (hn : 0 ≤ x - takesP ps ins + leavesP ins) (htk : 0 ≤ takesP ps ins) (hlv : leavesP ins ≤ 2) :
  KI ps xs U i x ins ts (hs.set t (x - takesP ps ins + leavesP ins)) ok true (j + 1) := by
 have hl := (List.getElem?_eq_some_iff.1 hy).1
 have hy1 : hs[t]? = some (-1) := by
  have := K.ri.low t y hy
  rw [hy]
  congr 1
  omega
 have hu := unseen_set hs t _ hy1 hn
 have hti : t ≠ i := by
  intro e
  subst e
  have := K.pos
  rw [hy] at this
  have := Option.some.inj this
  omega
 have ht0 : t ≠ 0 := by
  intro e
  subst e
  have := K.ri.zero
  rw [hy] at this
  have := Option.some.inj this
  omega
 have hhi := K.ri.high i x K.pos
 refine ⟨⟨by simp [K.ri.len], fun k h hk => ?_, fun k h hk => ?_, fun hok k h hk hh => ?_, K.ri.bad, ?_⟩, ?_, K.fit, fun h => by simp at h, fun h => by simp at h, ?_⟩
 ·rcases set_get hl hk with ⟨_, rfl⟩ | ⟨_, hk⟩
  ·omega
  ·exact K.ri.low k h hk
 ·rcases set_get hl hk with ⟨_, rfl⟩ | ⟨_, hk⟩
  ·omega
  ·have := K.ri.high k h hk
   omega
 ·rcases set_get hl hk with ⟨rfl, rfl⟩ | ⟨_, hk⟩
  ·exact .step (K.ri.rch hok i x K.pos h0) hi hg
  ·exact K.ri.rch hok k h hk hh
 ·rw [List.getElem?_set]; simp [ht0, K.ri.zero]
 ·rw [List.getElem?_set]; simp [hti, K.pos]
 ·have := K.me
  simp
  omega
theorem KI.old {ps : List Pc} {xs : List Ins} {U i : Nat} {x : Int} {ins : Ins} {ts : List Nat} {hs : List Int} {ok again : Bool} {j t : Nat} {y : Int} (K : KI ps xs U i x ins ts hs ok again j) (h0 : 0 ≤ x) (hi : xs[i]? = some ins) (hj : ts[j]? = some t) (hg : t ∈ goOn i ins) (hy : hs[t]? = some y) (hy0 : 0 ≤ y ∨ x - takesP ps ins + leavesP ins < 0) (hlv : 0 ≤ leavesP ins) :
  KI ps xs U i x ins ts hs (ok && decide (y = x - takesP ps ins + leavesP ins)) again (j + 1) := by
 refine ⟨⟨K.ri.len, K.ri.low, K.ri.high, fun h => K.ri.rch (by simp at h; exact h.1), fun h => ?_, K.ri.zero⟩, K.pos, fun h => K.fit (by simp at h; exact h.1), fun a h => K.pd a (by simp at h; exact h.1), fun a h u hu => ?_, K.me⟩
 ·cases hok : ok
  ·exact K.ri.bad hok
  ·have hne : ¬ y = x - takesP ps ins + leavesP ins := by simpa [hok] using h
   have hf := K.fit hok
   have hy1 : 0 ≤ y := by rcases hy0 with h | h <;> omega
   exact not_good_two (.step (K.ri.rch hok i x K.pos h0) hi hg) (K.ri.rch hok t y hy hy1) hne
 ·simp only [Bool.and_eq_true, decide_eq_true_eq] at h
  rcases take_mem hj hu with hu | rfl
  ·exact K.ks a h.1 u hu
  ·rw [hy, h.2]
theorem KI.finish {ps : List Pc} {xs : List Ins} {U i : Nat} {x : Int} {ins : Ins} {ts : List Nat} {hs : List Int} {ok again : Bool} {j : Nat} (K : KI ps xs U i x ins ts hs ok again j) (hj : ts.length ≤ j) (hi : xs[i]? = some ins) (hall : ∀ t ∈ goOn i ins, t ∈ ts) (hlv : 0 ≤ leavesP ins) : again = false → ok = true → PD ps xs hs (i + 1) := by
 intro a h k y hk hy hy0
 by_cases hki : k < i
 ·exact K.pd a h k y hki hy hy0
 obtain rfl : k = i := by omega
 obtain rfl : y = x := Option.some.inj (hy.symm.trans K.pos)
 obtain ⟨f1, f2, f3⟩ := K.fit h
 refine ⟨f2, fun i' hi' => ?_⟩
 obtain rfl : ins = i' := Option.some.inj (hi.symm.trans hi')
 refine ⟨f1, f3, fun t ht => ⟨K.ks a h t ?_, by omega⟩⟩
 rw [List.take_of_length_le hj]
 exact hall t ht
theorem PD.skip {ps : List Pc} {xs : List Ins} {hs : List Int} {i : Nat} {x : Int} (h : PD ps xs hs i) (hx : hs[i]? = some x) (h0 : x < 0) : PD ps xs hs (i + 1) := by
 intro k y hk hy hy0
 by_cases hki : k < i
 ·exact h k y hki hy hy0
 obtain rfl : k = i := by omega
 have := Option.some.inj (hy.symm.trans hx)
 omega
theorem RI.start {ps : List Pc} {xs : List Ins} (h : 0 < xs.length) : RI ps xs ((List.replicate xs.length (-1)).set 0 0) true := by
 have hl : 0 < (List.replicate xs.length (-1 : Int)).length := by simpa using h
 have key : ∀ (k : Nat) (y : Int), ((List.replicate xs.length (-1)).set 0 0)[k]? = some y → (k = 0 ∧ y = 0) ∨ y = -1 := by
  intro k y hk
  rcases set_get hl hk with ⟨h1, h2⟩ | ⟨_, h2⟩
  ·exact .inl ⟨h1, h2⟩
  ·have := List.getElem?_replicate ▸ h2
   split at this
   ·exact .inr (Option.some.inj this).symm
   ·simp at this
 have hu : unseenN ((List.replicate xs.length (-1)).set 0 0) + 1 = xs.length := by
  have := unseen_set (List.replicate xs.length (-1)) 0 0 (by rw [List.getElem?_replicate]; simp [h]) (Int.le_refl _)
  rw [this]
  unfold unseenN
  rw [List.countP_replicate]
  simp
 refine ⟨by simp, fun k y hk => ?_, fun k y hk => ?_, fun _ k y hk h0 => ?_, fun h => by simp at h, ?_⟩
 ·rcases key k y hk with ⟨_, h⟩ | h <;> omega
 ·rcases key k y hk with ⟨_, h⟩ | h <;> omega
 ·rcases key k y hk with ⟨rfl, rfl⟩ | h
  ·exact .start
  ·omega
 ·rw [List.getElem?_set]; simp [h]
theorem RI.good {ps : List Pc} {xs : List Ins} {hs : List Int} {ok : Bool} (R : RI ps xs hs ok) (pd : ok = true → PD ps xs hs xs.length) : goodB ps xs = ok := by
 cases hok : ok
 ·exact goodB_false (R.bad hok)
 ·refine goodB_true (good_of_done R.len R.zero fun k h hk h0 => pd hok k h ?_ hk h0)
  have := (List.getElem?_eq_some_iff.1 hk).1
  rw [← R.len]; exact this
end Go.Proofs.YtemjajljpoaioaaDoor
