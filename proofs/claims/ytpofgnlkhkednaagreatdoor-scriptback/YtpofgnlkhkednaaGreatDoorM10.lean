import Derived.Test.YtpofgnlkhkednaaGreatDoorM09
import Derived.OrdersHeld
namespace Go.Proofs.YtpofgnlkhkednaaGreatDoor
open Go.RowKit
set_option linter.unusedVariables false
set_option linter.unusedSimpArgs false
set_option maxRecDepth 20000
set_option maxHeartbeats 8000000
def nowOf : ES → Tok
 | .error _ => .none
 | .ok σ => σ.now
theorem RAt.now {w : World} {b : Nat} {S : ES} (R : RAt w b S) : w.cell? ⟨b, 1, none⟩ = some (.int .i64 (nowOf S).class) ∧ w.cell? ⟨b, 3, none⟩ = some (.int .i64 (nowOf S).n) ∧ (nowOf S).ok := by
 cases S with
 | ok σ =>
  obtain ⟨k, hr⟩ := R.box;exact ⟨(k.cell 1).trans rfl, (k.cell 3).trans rfl, hr.2⟩
 | error e =>
  obtain ⟨h0, r, lv, k⟩ := R.box;exact ⟨(k.cell 1).trans rfl, (k.cell 3).trans rfl, trivial⟩
theorem Rel.at {α : Type} {F G : PM α} {S S' : ES} {x : α} (h : Rel F S x S') (e : ∀ σ, S = .ok σ → F σ = G σ) : Rel G S x S' := by
 cases S with
 | error e => exact h
 | ok σ => unfold Rel at h ⊢; simp only [← e σ rfl]; exact h
theorem pick_mem {l : List (Int × Key)} {S : ES} : pickI l S = 0 ∨ ∃ p ∈ l, pickI l S = p.1 := by
 induction l with
 | nil => exact .inl rfl
 | cons p r ih =>
  obtain ⟨k, s⟩ := p;rw [pickI]
  split
  ·exact .inr ⟨(k, s), by simp, rfl⟩
  ·rcases ih with h | ⟨q, h1, h2⟩
   ·exact .inl h
   ·exact .inr ⟨q, by simp [h1], h2⟩
theorem oper7 {S : ES} : pickI (operW 7) S = 0 ∨ ∃ k : Nat, 20 ≤ k ∧ k ≤ 26 ∧ pickI (operW 7) S = k := by
 rcases pick_mem (l := operW 7) (S := S) with h | ⟨p, h1, h2⟩
 ·exact .inl h
 ·refine .inr ⟨p.1.toNat, ?_⟩;have : ∀ p ∈ operW 7, 20 ≤ p.1 ∧ p.1 ≤ 26 := by decide
  have := this p h1;rw [h2];omega
theorem Gl.form {w : World} (h : Gl w) (k : Nat) (h1 : 20 ≤ k) (h2 : k ≤ 26) : w.cell? ⟨3, k * 2 + 1, none⟩ = some (.int .i64 (formI k)) := by
 have h3 : (flatF formL)[k * 2 + 1]? = some (.int .i64 (formI k)) := by
  have : k = 20 ∨ k = 21 ∨ k = 22 ∨ k = 23 ∨ k = 24 ∨ k = 25 ∨ k = 26 := by omega
  rcases this with rfl | rfl | rfl | rfl | rfl | rfl | rfl <;> rfl
 have := h.tab 3 (by omega) (k * 2 + 1) _ h3
 rwa [Nat.zero_add] at this
theorem atom_b {N : Nat} (H : ExL N) (b : Nat) (S : ES) (w : World) (R : RAt w b S) (hn : need S + 12 ≤ N) : Calls Tryz.prog 88 #[.pointer (some ⟨b, 0, none⟩)] w (ExE b (atomT N) S w) := by
 obtain ⟨n, rfl⟩ : ∃ n, N = n + 1 := ⟨N - 1, by omega⟩;have zb := R.lt;have bA : Below w.heap.size w (w.alloc (.cells #[.int .i64 0, .int .i64 0, .string ⟨#[]⟩, .slice none 0 0] 80)) := (Below.refl _ _).alloc (Nat.le_refl _) _;have kA := Blk.new w #[.int .i64 0, .int .i64 0, .string ⟨#[]⟩, .slice none 0 0] 80;have RA := R.below bA;have BA : But (fun k => k = b) w (w.alloc (.cells #[.int .i64 0, .int .i64 0, .string ⟨#[]⟩, .slice none 0 0] 80)) := But.of_below bA;have hzA : w.heap.size < (w.alloc (.cells #[.int .i64 0, .int .i64 0, .string ⟨#[]⟩, .slice none 0 0] 80)).heap.size := kA.lt;obtain ⟨n1, n3, hok⟩ := RA.now;have zbA : b < (w.alloc (.cells #[.int .i64 0, .int .i64 0, .string ⟨#[]⟩, .slice none 0 0] 80)).heap.size := RA.lt
 go_enter Tryz.func88, Tryz.ntmps88
 go_upto_region 1 with fail
 generalize w.alloc (.cells #[.int .i64 0, .int .i64 0, .string ⟨#[]⟩, .slice none 0 0] 80) = wA at *
 clear bA
 by_cases hc3 : ∃ m, nowOf S = .num m
 ·obtain ⟨m, hm⟩ := hc3;rw [hm] at n1 n3 hok;have n1' : wA.cell? ⟨b, 1, none⟩ = some (.int .i64 3) := n1;have n3' : wA.cell? ⟨b, 3, none⟩ = some (.int .i64 m) := n3;have hmb : 0 ≤ m ∧ m ≤ 1099511627775 := hok
  have HH : Hid (Here S ∧ ∀ σ, S = .ok σ → bnd nextT (fun _ => pur (exP 1 m [] [])) σ = atomT (n + 1) σ) := by
   cases S with
   | error e => cases hm
   | ok σ =>
    have hm : σ.now = .num m := hm;refine ⟨⟨by rw [hm]; simp, by rw [hm]; simp⟩, fun τ e => ?_⟩;injection e with e
    subst e;rw [atomT];simp only [hm]
  clear n1 n3 hok hm;have bC : Below wA.heap.size wA (wA.alloc (.cells #[.int .i64 1, .int .i64 m, .string ⟨#[]⟩, .slice none 0 0] 80)) := (Below.refl _ _).alloc (Nat.le_refl _) _;have kC := Blk.new wA #[.int .i64 1, .int .i64 m, .string ⟨#[]⟩, .slice none 0 0] 80;have kA' := kA.below bC kA.lt
  go_wp2_with fail
  refine (next_u b S _ (RA.below bC)).mono ?_;rintro e w1 ⟨rfl, B1, S1, R1, h1⟩;have hd1 := need_here h1 HH.out.1;have k1 := B1.blk kA' (by omega);have kD := B1.blk kC (by omega);have B01 := bbut (bal BA _) B1;have hz1 := k1.lt;have HR : Hid (Rel (atomT (n + 1)) S (pvAll (exF 1 m [] none 0 [])) S1) := Rel.at (Rel.bind (G := fun _ => pur (exP 1 m [] [])) h1 (Rel.pur _ _)) HH.out.2;obtain ⟨z2, ⟨d0, d1, d2, d3⟩, g0, g1, g2, g3⟩ := kD.four;obtain ⟨z1, ⟨c0, c1, c2, c3⟩, f0, f1, f2, f3⟩ := k1.four;clear bC kC kA' kA n1' n3' h1
  go_wp2
  exact ex_give (es := []) (s := []) Tryz.results88 rfl rfl k1 zb (Nat.le_refl _) hz1 (exF_lie (by omega) (by omega) (lies_none _ _)) B01 R1 (by omega) HR.out
 ·have hc3' : ((nowOf S).class == 3) = false := by
   cases h : nowOf S with
   | num m => exact absurd ⟨m, h⟩ hc3
   | _ => rfl
  by_cases hc2 : ∃ t, nowOf S = .name t
  ·obtain ⟨t, ht⟩ := hc2;rw [ht] at n1;have n1' : wA.cell? ⟨b, 1, none⟩ = some (.int .i64 2) := n1
   have HH : Hid ((∃ σ t, S = .ok σ ∧ σ.now = .name t) ∧ ∀ σ, S = .ok σ → namedT n σ = atomT (n + 1) σ) := by
    cases S with
    | error e => cases ht
    | ok σ =>
     have ht : σ.now = .name t := ht;refine ⟨⟨σ, t, rfl, ht⟩, fun τ e => ?_⟩;injection e with e
     subst e;rw [atomT];simp only [ht]
   clear n1 n3 hok ht hc3 hc3'
   go_wp2_with fail
   refine (named_b (N := n) (fun m hm => H m (by omega)) b S wA RA HH.out.1 (by omega)).mono ?_;rintro e w1 ⟨op, m, s, la, lc, es, rfl, hl, B1, S1, R1, hd1, h1⟩;unfold exC;have k1 := B1.blk kA (by omega);obtain ⟨z1, ⟨c0, c1, c2, c3⟩, f0, f1, f2, f3⟩ := k1.four;have B01 := bbut BA B1;have HR : Hid (Rel (atomT (n + 1)) S (pvAll (exF op m s la lc es)) S1) := Rel.at h1 HH.out.2;clear h1
   go_wp2
   exact ex_give Tryz.results88 rfl rfl k1 zb (Nat.le_refl _) hzA hl B01 R1 hd1 HR.out
  ·have hc2' : ((nowOf S).class == 2) = false := by
    cases h : nowOf S with
    | name t => exact absurd ⟨t, h⟩ hc2
    | _ => rfl
   have HH : Hid (∀ σ, S = .ok σ → wordT n σ = atomT (n + 1) σ) := by
    intro σ e;subst e;rw [atomT]
    cases h : σ.now with
    | num m => exact absurd ⟨m, h⟩ hc3
    | name t => exact absurd ⟨t, h⟩ hc2
    | _ => simp only [h]
   obtain ⟨n', rfl⟩ : ∃ n', n = n' + 1 := ⟨n - 1, by omega⟩;have K1 := is_b [40] b S wA RA;obtain ⟨x1, Hx1⟩ : ∃ x, Hid (x = stands [40] S) := ⟨_, rfl⟩;rw [← Hx1.out] at K1;clear hc3 hc2 hok
   go_wp2_with fail
   refine K1.mono ?_;rintro e w1 ⟨rfl, B1, R1⟩;have k1 := B1.blk kA (by omega);have B01 := bbut BA B1;have hz1 := k1.lt;clear kA BA RA B1 K1 n1 n3 hc3' hc2'
   cases x1 with
   | true =>
    have hN : 16 ≤ need S := by
     have := Here.of_stands Hx1.out.symm
     cases S with
     | error e => exact this.elim
     | ok σ =>
      have hm : mu σ = σ.rest.length + 1 := by unfold mu; rw [if_neg (by rintro (q | q); exact this.1 q; exact this.2 q)]
      show 16 ≤ 16 * mu σ;omega
    go_wp2_with fail
    refine (inner_n (N := n') (fun m hm => H m (by omega)) [40] [41] b S w1 R1 (by omega) (by omega)).mono ?_;rintro e w2 ⟨op, m, s, la, lc, es, rfl, hl, B2, S2, R2, hd2, h2⟩;unfold exC;have k2 := B2.blk k1 (by omega);obtain ⟨z1, ⟨c0, c1, c2, c3⟩, f0, f1, f2, f3⟩ := k2.four;have B02 := bbut B01 B2
    have HR : Hid (Rel (atomT (n' + 1 + 1)) S (pvAll (exF op m s la lc es)) S2) := by
     refine Rel.at (F := wordT (n' + 1)) ?_ HH.out;rw [wordT];refine (rel_is [40] S).bind ?_;rw [← Hx1.out];exact h2
    clear h2 Hx1
    go_wp2
    exact ex_give Tryz.results88 rfl rfl k2 zb (Nat.le_refl _) hz1 hl B02 R2 hd2 HR.out
   | false =>
    have K2 := is_b kTrue b S w1 R1;obtain ⟨x2, Hx2⟩ : ∃ x, Hid (x = stands kTrue S) := ⟨_, rfl⟩;rw [← Hx2.out] at K2
    go_wp2_with fail
    refine K2.mono ?_;rintro e w2 ⟨rfl, B2, R2⟩;have k2 := B2.blk k1 (by omega);have B02 := bbut B01 B2;have hz2 := k2.lt;clear k1 B01 R1 B2 K2 hz1
    cases x2 with
    | true =>
     go_wp2_with fail
     refine (take_u kTrue b S w2 R2).mono ?_;rintro e w3 ⟨rfl, B3, S3, R3, h3⟩;have hd3 := (need_take h3).1;have k3 := B3.blk k2 (by omega);obtain ⟨z1, ⟨c0, c1, c2, c3⟩, f0, f1, f2, f3⟩ := k3.four;have B03 := bbut B02 B3
     have HR : Hid (Rel (atomT (n' + 1 + 1)) S (pvAll (exF 2 1 [] none 0 [])) S3) := by
      refine Rel.at (F := wordT (n' + 1)) ?_ HH.out;rw [wordT];refine (rel_is [40] S).bind ?_;rw [← Hx1.out, if_neg Bool.false_ne_true];refine Rel.bind (F := isT kTrue) (rel_is kTrue S) ?_;rw [← Hx2.out];exact Rel.bind (G := fun _ => pur (exP 2 1 [] [])) h3 (Rel.pur _ _)
     clear h3 Hx1 Hx2
     go_wp2
     exact ex_give (es := []) (s := []) Tryz.results88 rfl rfl k3 zb (Nat.le_refl _) z1 (exF_lie (by omega) (by omega) (lies_none _ _)) B03 R3 hd3 HR.out
    | false =>
     have K3 := is_b kFalse b S w2 R2;obtain ⟨x3, Hx3⟩ : ∃ x, Hid (x = stands kFalse S) := ⟨_, rfl⟩;rw [← Hx3.out] at K3
     go_wp2_with fail
     refine K3.mono ?_;rintro e w3 ⟨rfl, B3, R3⟩;have k3 := B3.blk k2 (by omega);have B03 := bbut B02 B3;have hz3 := k3.lt;clear k2 B02 R2 B3 K3 hz2
     cases x3 with
     | true =>
      go_wp2_with fail
      refine (take_u kFalse b S w3 R3).mono ?_;rintro e w4 ⟨rfl, B4, S4, R4, h4⟩;have hd4 := (need_take h4).1;have k4 := B4.blk k3 (by omega);obtain ⟨z1, ⟨c0, c1, c2, c3⟩, f0, f1, f2, f3⟩ := k4.four;have B04 := bbut B03 B4
      have HR : Hid (Rel (atomT (n' + 1 + 1)) S (pvAll (exF 2 0 [] none 0 [])) S4) := by
       refine Rel.at (F := wordT (n' + 1)) ?_ HH.out;rw [wordT];refine (rel_is [40] S).bind ?_;rw [← Hx1.out, if_neg Bool.false_ne_true];refine Rel.bind (F := isT kTrue) (rel_is kTrue S) ?_;rw [← Hx2.out, if_neg Bool.false_ne_true];refine Rel.bind (F := isT kFalse) (rel_is kFalse S) ?_;rw [← Hx3.out];exact Rel.bind (G := fun _ => pur (exP 2 0 [] [])) h4 (Rel.pur _ _)
      clear h4 Hx1 Hx2 Hx3
      go_wp2
      exact ex_give (es := []) (s := []) Tryz.results88 rfl rfl k4 zb (Nat.le_refl _) z1 (exF_lie (by omega) (by omega) (lies_none _ _)) B04 R4 hd4 HR.out
     | false =>
      have HW : Hid (∀ y S', Rel (bnd (pickT (operW 7)) fun op => if op = 0 then wrongT else bnd nextT fun _ => if formI op = 1 then bnd (innerT n' [40] [41]) fun y => pur (exP op 0 [] [y]) else pur (exP op 0 [] [])) S y S' → Rel (atomT (n' + 1 + 1)) S y S') := by
       intro y S' hy;refine Rel.at (F := wordT (n' + 1)) ?_ HH.out;rw [wordT];refine (rel_is [40] S).bind ?_;rw [← Hx1.out, if_neg Bool.false_ne_true];refine Rel.bind (F := isT kTrue) (rel_is kTrue S) ?_;rw [← Hx2.out, if_neg Bool.false_ne_true];refine Rel.bind (F := isT kFalse) (rel_is kFalse S) ?_;rw [← Hx3.out, if_neg Bool.false_ne_true];exact hy
      clear HH Hx1 Hx2 Hx3;have K4 := oper_b 7 b S w3 R3;obtain ⟨op, Hop⟩ : ∃ op, Hid (op = pickI (operW 7) S) := ⟨_, rfl⟩;rw [← Hop.out] at K4;have h7 := oper7 (S := S);rw [← Hop.out] at h7
      go_wp2_with fail
      refine K4.mono ?_;rintro e w4 ⟨rfl, B4, R4⟩;have k4 := B4.blk k3 (by omega);have B04 := bbut B03 B4;have hz4 := k4.lt;clear k3 B03 R3 B4 K4 hz3;rcases h7 with h7 | ⟨k, hk1, hk2, h7⟩
      ·subst h7
       go_wp2_with fail
       refine (wrong_u b S w4 R4).mono ?_;rintro e w5 ⟨rfl, B5, S5, R5, h5⟩;have hd5 := need_wrong h5;have k5 := B5.blk k4 (by omega);obtain ⟨z1, ⟨c0, c1, c2, c3⟩, f0, f1, f2, f3⟩ := k5.four;have B05 := bbut B04 B5
       have HR : Hid (Rel (atomT (n' + 1 + 1)) S (pvAll (exF 0 0 [] none 0 [])) S5) := by
        refine HW.out _ _ ((rel_pick (operW 7) S).bind ?_);rw [← Hop.out, if_pos rfl]
        cases S with
        | error e => exact h5
        | ok σ => exact h5
       clear h5 HW
       go_wp2
       exact ex_give (es := []) (s := []) Tryz.results88 rfl rfl k5 zb (Nat.le_refl _) z1 (exF_lie (by omega) (by omega) (lies_none _ _)) B05 R5 hd5 HR.out
      ·subst h7;have hk0 : ¬ (k : Int) = 0 := by omega
       have hkb : ((k : Int) == 0) = false := by simpa using hk0
       have hHere : Here S := Here.of_pick (l := operW 7) (by rw [← Hop.out]; exact hk0)
       have HW' : Hid (∀ y S' S5, Rel nextT S () S5 → Rel (if formI k = 1 then bnd (innerT n' [40] [41]) fun y => pur (exP k 0 [] [y]) else pur (exP k 0 [] [])) S5 y S' → Rel (atomT (n' + 1 + 1)) S y S') := by
        intro y S' S5 h5 hy;refine HW.out _ _ ((rel_pick (operW 7) S).bind ?_);rw [← Hop.out, if_neg hk0];exact Rel.bind (F := nextT) h5 hy
       clear HW Hop
       go_wp2_with fail
       refine (next_u b S w4 R4).mono ?_;rintro e w5 ⟨rfl, B5, S5, R5, h5⟩;have hd5 := need_here h5 hHere;have k5 := B5.blk k4 (by omega);have B05 := bbut B04 B5;have bC : Below w5.heap.size w5 (w5.alloc (.cells #[.int .i64 k, .int .i64 0, .string ⟨#[]⟩, .slice none 0 0] 80)) := (Below.refl _ _).alloc (Nat.le_refl _) _;have kC := Blk.new w5 #[.int .i64 k, .int .i64 0, .string ⟨#[]⟩, .slice none 0 0] 80;have k6 := k5.below bC k5.lt;have R6 := R5.below bC;have B06 := bal B05 (.cells #[.int .i64 k, .int .i64 0, .string ⟨#[]⟩, .slice none 0 0] 80);have hz5 := k5.lt;clear k4 B04 R4 B5
       go_upto_region 21 with fail
       generalize w5.alloc (.cells #[.int .i64 k, .int .i64 0, .string ⟨#[]⟩, .slice none 0 0] 80) = w6 at *
       have hf := R6.gl.form k hk1 hk2;have hzg := R6.gl.sz;have hk27 : (k : Int) < 27 := by omega
       obtain ⟨fm, Hfm⟩ : ∃ fm, Hid (fm = formI k) := ⟨_, rfl⟩;rw [← Hfm.out] at hf;have hzC : w5.heap.size < w6.heap.size := kC.lt
       by_cases hfm : fm = 1
       ·subst hfm
        go_wp2_with fail
        refine (inner_n (N := n') (fun m hm => H m (by omega)) [40] [41] b S5 w6 R6 (by omega) (by omega)).mono ?_;rintro e w7 ⟨op7, m7, s7, la7, lc7, es7, rfl, hl7, B7, S7, R7, hd7, h7⟩;unfold exC;have k7 := B7.blk k6 (by omega);have kD := B7.blk kC (by omega);have B07 := bbut B06 B7;have hz7 := B7.size;have row := row_one kD zb (by omega) (by omega : w5.heap.size < w6.heap.size) (by omega) hl7 B07 R7
        have HR : Hid (∀ la, Rel (atomT (n' + 1 + 1)) S (pvAll (exF k 0 [] la 1 [exF op7 m7 s7 la7 lc7 es7])) S7) := by
         intro la;refine HW'.out _ _ S5 h5 ?_;rw [if_pos Hfm.out.symm];exact Rel.bind (G := fun y => pur (exP k 0 [] [y])) h7 (Rel.pur _ _)
        obtain ⟨z2, ⟨d0, d1, d2, d3⟩, g0, g1, g2, g3⟩ := kD.four;clear h5 h7 HW' Hfm hf
        go_upto_region 23 with fail
        obtain ⟨kG, lie8, B08, R8, oth⟩ := row ((w7.setCell ⟨w5.heap.size, 3, none⟩ (.slice (some ⟨w7.heap.size, 0, none⟩) 1 1)).alloc (.cells #[.int .i64 op7, .int .i64 m7, .string (str s7), .slice la7 es7.length lc7] 80)) rfl;have k8 := oth _ _ _ (by omega) k7;clear row oth d0 d1 d2 d3 g0 g1 g2 g3 z2 kD k7
        generalize (w7.setCell ⟨w5.heap.size, 3, none⟩ (.slice (some ⟨w7.heap.size, 0, none⟩) 1 1)).alloc (.cells #[.int .i64 op7, .int .i64 m7, .string (str s7), .slice la7 es7.length lc7] 80) = w8 at *
        obtain ⟨z2, ⟨d0, d1, d2, d3⟩, g0, g1, g2, g3⟩ := kG.four;obtain ⟨z1, ⟨c0, c1, c2, c3⟩, f0, f1, f2, f3⟩ := k8.four
        go_wp2
        exact ex_give (es := [exF op7 m7 s7 la7 lc7 es7]) (s := []) Tryz.results88 rfl rfl k8 zb (Nat.le_refl _) (by omega : w.heap.size < w6.heap.size) (exF_lie (by omega) (by omega) lie8) B08 R8 (by omega) (HR.out _)
       ·have hfm' : (fm == 1) = false := by simpa using hfm
        have HR : Hid (Rel (atomT (n' + 1 + 1)) S (pvAll (exF k 0 [] none 0 [])) S5) := by
         refine HW'.out _ _ S5 h5 ?_;rw [if_neg (fun q => hfm (Hfm.out.trans q))];exact Rel.pur _ _
        obtain ⟨z2, ⟨d0, d1, d2, d3⟩, g0, g1, g2, g3⟩ := kC.four;obtain ⟨z1, ⟨c0, c1, c2, c3⟩, f0, f1, f2, f3⟩ := k6.four;clear h5 HW' Hfm hfm
        go_wp2
        exact ex_give (es := []) (s := []) Tryz.results88 rfl rfl k6 zb (Nat.le_refl _) (by omega : w.heap.size < w6.heap.size) (exF_lie (by omega) (by omega) (lies_none _ _)) B06 R6 (by omega) HR.out
variable {P : Program} {md : Region.Mode} {ops ops' : Array Oper} {Q : Exit → Act → World → Prop}
def ThenLast (P : Program) (ops : Array Oper) (Q : Exit → Act → World → Prop) (m : Nat) : Exit → Act → World → Prop
 | .normal, a, w => wpOp P ops Q m (fun a w => Q .normal a w) a w
 | e, a, w => Q e a w
theorem wp_last {m : Nat} {o : Oper} {a : Act} {w : World} {K K' : Act → World → Prop} (h : ∀ a w, K a w → K' a w) (hh : o.wp P a w K (ThenLast P ops Q m)) : o.wp P a w K' Q := by
 unfold Oper.wp at hh ⊢;generalize (execOp a.eval o).run P w = r at hh ⊢
 cases r with
 | ok n w' =>
  cases n with
  | value v => exact h _ _ hh
  | skip => exact h _ _ hh
  | defer d => exact h _ _ hh
  | enter f args =>
   refine Calls.mono (R := _) hh fun e w'' he => ?_
   cases e with
   | returned v => exact h _ _ he
   | panicked c => exact he
   | outgrown => exact he
  | row r args => exact Rows.mono hh fun _ _ he => h _ _ he
  | _ => exact hh
 | halt x w' => cases x <;> exact hh
theorem getD_tf {listed : Array Bool} {i : Nat} (hi : i < listed.size) (h : listed.getD i true = true) : listed.getD i false = true := by
 simp [Array.getD, hi] at h ⊢; exact h
theorem ready_some (hord : ∀ (j : Nat) (o : Oper), ops[j]? = some o → ∀ e ∈ o.after, e.on < j) (listed : Array Bool) (hs : listed.size = ops.size) : ∀ m, m < ops.size → listed.getD m true = false → Region.ready md ops listed ≠ [] := by
 intro m
 induction m using Nat.strongRecOn with
 | _ m ih =>
  intro hm hl
  by_cases hx : ∃ j, j < m ∧ listed.getD j true = false
  ·obtain ⟨j, hj, hjl⟩ := hx;exact ih j hj (by omega) hjl
  ·intro h0
   have hmem : m ∈ Region.ready md ops listed := by
    unfold Region.ready;rw [List.mem_filter];refine ⟨List.mem_range.2 hm, ?_⟩;rw [hl];have hg : ops[m]? = some ops[m] := Array.getElem?_eq_getElem hm;rw [hg];simp only [Bool.not_false, Bool.true_and, Option.map_some, Option.getD_some];rw [Array.all_eq_true'];intro e he;have hlt := hord m _ hg e he
    have : listed.getD e.on true = true := by
     cases hq : listed.getD e.on true with
     | true => rfl
     | false => exact (hx ⟨e.on, hlt, hq⟩).elim
    rw [getD_tf (by omega) this];simp
   rw [h0] at hmem;simp at hmem
theorem wpAny_last (m : Nat) (om om' : Oper) (hsz : ops'.size = ops.size) (hm : ops[m]? = some om) (hm' : ops'[m]? = some om') (heq : ∀ j, j ≠ m → ops'[j]? = ops[j]?) (haf : om'.after = om.after)
  (hd : om'.dst = om.dst) (hno : om.dst = none) (hg : om'.guard = none) (hnop : ∀ (a : Act) (w : World) (K : Act → World → Prop) (R : Exit → Act → World → Prop), om'.wp P a w K R → K a w) (hask : ∀ a w, ¬ om'.asks P a w)
  (hord : ∀ (j : Nat) (o : Oper), ops[j]? = some o → ∀ e ∈ o.after, e.on < j) (hwait : ∀ j, j < ops.size → j ≠ m → ∃ e ∈ om.after, Region.binds md e = true ∧ e.on = j) :
  ∀ fuel listed a w, listed.size = ops.size → listed.getD m true = false → wpAny P md ops' (ThenLast P ops Q m) fuel listed a w → wpAny P md ops Q fuel listed a w := by
 have hml : m < ops.size := (Array.getElem?_eq_some_iff.1 hm).1
 have hy : ∀ tm, yielded ops' tm = yielded ops tm := by
  intro tm;funext j;unfold yielded
  by_cases hj : j = m
  ·subst hj; rw [hm, hm']; simp only [Option.bind_some, hd]
  ·rw [heq j hj]
 have hr : ∀ listed, Region.ready md ops' listed = Region.ready md ops listed := by
  intro listed;unfold Region.ready;rw [hsz]
  congr 1
  funext j
  by_cases hj : j = m
  ·subst hj; rw [hm, hm']; simp only [Option.map_some, haf]
  ·rw [heq j hj]
 intro fuel
 induction fuel with
 | zero =>
  intro listed a w hs hl h;have := h.1;rw [hr] at this;exact (ready_some hord listed hs m hml hl this).elim
 | succ fuel ih =>
  intro listed a w hs hl h;refine ⟨fun h0 => (ready_some hord listed hs m hml hl h0).elim, fun i hi => ?_⟩;have h2 := h.2 i (by rw [hr]; exact hi)
  by_cases him : i = m
  ·subst him
   have hall : ∀ j, j < ops.size → j ≠ i → listed.getD j true = true := by
    intro j hj hji;unfold Region.ready at hi;rw [List.mem_filter] at hi;have h3 := hi.2;rw [hm] at h3;simp only [Option.map_some, Option.getD_some, Bool.and_eq_true] at h3;obtain ⟨e, he, hb, hon⟩ := hwait j hj hji;have h4 := (Array.all_eq_true'.1 h3.2) e he;rw [hb, hon] at h4;have hjs : j < listed.size := by omega
    simp [Array.getD, hjs] at h4 ⊢;exact h4
   have hrn : Region.ready md ops (listed.setIfInBounds i true) = [] := by
    unfold Region.ready;rw [List.filter_eq_nil_iff];intro j hj;have hj := List.mem_range.1 hj
    have : (listed.setIfInBounds i true).getD j true = true := by
     by_cases hji : j = i
     ·subst hji; simp [Array.getD]
     ·have := hall j hj hji;have hjs : j < listed.size := by omega
      have hij : i ≠ j := fun e => hji e.symm;simp only [Array.getD_eq_getD_getElem?] at this ⊢;rw [Array.getElem?_setIfInBounds_ne hij];exact this
    rw [this]; simp
   unfold wpOp at h2;rw [hm'] at h2;simp only [Region.wanted, hg, if_true] at h2
   have h5 : wpAny P md ops' (ThenLast P ops Q i) fuel (listed.setIfInBounds i true) a w := by
    rcases h2 with h2 | ⟨h2, _⟩
    ·exact hnop _ _ _ _ h2
    ·exact (hask _ _ h2).elim
   have h6 : ThenLast P ops Q i .normal a w := by
    cases fuel with
    | zero => exact h5.2
    | succ n => exact h5.1 (by rw [hr]; exact hrn)
   exact wpOp_mono (fun a' w' hq => wpAny_done hrn hq _) h6
  ·have ho : ops'[i]? = ops[i]? := heq i him
   have hl' : (listed.setIfInBounds i true).getD m true = false := by
    have hms : m < listed.size := by omega
    simp [Array.getD, hms, him] at hl ⊢;exact hl
   have key : wpOp P ops Q i (wpAny P md ops Q fuel (listed.setIfInBounds i true)) a w := by
    unfold wpOp at h2 ⊢;rw [ho, hy] at h2
    cases hoi : ops[i]? with
    | none => rw [hoi] at h2; exact ih _ _ _ (by simpa using hs) hl' h2
    | some o =>
     rw [hoi] at h2;simp only at h2 ⊢
     split
     ·rename_i hw
      rw [if_pos hw] at h2;exact h2.imp (wp_last fun a' w' hk => ih _ _ _ (by simpa using hs) hl' hk) (fun ⟨x, y⟩ => ⟨x, y⟩)
     ·rename_i hw
      rw [if_neg hw] at h2;exact ih _ _ _ (by simpa using hs) hl' h2
   exact key
theorem nop_wp {o : Oper} (ho : o.op = .move (.const undef)) (hd : o.dst = none) (a : Act) (w : World) (K : Act → World → Prop) (R : Exit → Act → World → Prop) (h : o.wp P a w K R) : K a w := by
 unfold Oper.wp execOp at h;rw [ho] at h;have h : K (a.put o.dst (a.eval (.const undef))) w := h;rw [hd] at h;exact h
theorem nop_asks {o : Oper} (ho : o.op = .move (.const undef)) (a : Act) (w : World) : ¬ o.asks P a w := by
 unfold Oper.asks execOp;rw [ho];intro h;have h1 : noRoomEvent ∈ (#[] : Array Event) := h.1;simp at h1
def lastB (md : Region.Mode) (ops : Array Oper) (m : Nat) : Bool :=
 (List.range ops.size).all (fun j => match ops[j]? with | some o => o.after.all fun e => decide (e.on < j) | none => true) &&
 (match ops[m]? with | some om => (List.range ops.size).all (fun j => j == m || om.after.any fun e => Region.binds md e && e.on == j) && om.dst.isNone && om.guard.isNone | none => false)
theorem wp_region_last {S : World → Prop} {id : Nat} {a : Act} {w : World} (m : Nat) (om : Oper) (hm : ops[m]? = some om) (hB : lastB .any ops m = true) (hx : P.follows .mixedOrders = true)
  (h : wpAnyH P .any (ops.setIfInBounds m { om with op := .move (.const undef) }) (ThenLast P ops Q m) S ops.size (Array.replicate ops.size false) a w.drew) : (Code.region id ops true).wp P Q a w := by
 unfold lastB at hB;rw [hm] at hB;simp only [Bool.and_eq_true, List.all_eq_true, List.mem_range] at hB;obtain ⟨h1, ⟨h2, h3⟩, h4⟩ := hB;have hml : m < ops.size := (Array.getElem?_eq_some_iff.1 hm).1;have hd : om.dst = none := Option.isNone_iff_eq_none.1 h3;have hgd : om.guard = none := Option.isNone_iff_eq_none.1 h4;refine wp_region_any hx (wpAny_last (ops' := ops.setIfInBounds m { om with op := .move (.const undef) }) m om { om with op := .move (.const undef) } (by simp) hm (by simp [hml]) (fun j hj => Array.getElem?_setIfInBounds_ne (Ne.symm hj)) rfl rfl hd hgd (nop_wp rfl hd) (nop_asks rfl) ?_ ?_ ops.size _ a _ (by simp) ?_ (wpAny_of_held _ _ _ _ h))
 ·intro j o hj e he;have hjl : j < ops.size := (Array.getElem?_eq_some_iff.1 hj).1;have := h1 j hjl;rw [hj] at this;have := (Array.all_eq_true'.1 this) e he
  simpa using this
 ·intro j hj hjm;have := h2 j hj;rw [Bool.or_eq_true] at this;rcases this with h5 | h5
  ·exact (hjm (by simpa using h5)).elim
  ·obtain ⟨e, he, hb⟩ := Array.any_eq_true'.1 h5;rw [Bool.and_eq_true] at hb;exact ⟨e, he, hb.1, by simpa using hb.2⟩
 ·simp [Array.getD, hml]
end Go.Proofs.YtpofgnlkhkednaaGreatDoor
