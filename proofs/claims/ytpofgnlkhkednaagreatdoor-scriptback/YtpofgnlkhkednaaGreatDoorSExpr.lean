import Derived.Test.YtpofgnlkhkednaaGreatDoorM10
namespace Go.Proofs.YtpofgnlkhkednaaGreatDoor
open Go.RowKit
set_option linter.unusedVariables false
set_option linter.unusedSimpArgs false
set_option maxRecDepth 20000
set_option maxHeartbeats 8000000
theorem ranked_mem (r : Int) : ∀ (l : List Key) (k : Int), ∀ p ∈ ranked r k l, k ≤ p.1 ∧ p.1 < k + l.length
 | [], k, p, hp => by cases hp
 | s :: l, k, p, hp => by
  have ih := ranked_mem r l (k + 1);rw [ranked] at hp;simp only [List.length_cons]
  split at hp
  ·rcases List.mem_cons.1 hp with rfl | hp
   ·exact ⟨Int.le_refl _, by simp; omega⟩
   ·have := ih p hp; omega
  ·have := ih p hp; omega
theorem oper_le (r : Int) (S : ES) : 0 ≤ pickI (operW r) S ∧ pickI (operW r) S ≤ 26 := by
 rcases pick_mem (l := operW r) (S := S) with h | ⟨p, h1, h2⟩
 ·rw [h]; omega
 ·have := ranked_mem r _ _ p h1;rw [h2];have e : ((exprL.drop 6).length : Int) = 21 := rfl;rw [e] at this;omega
theorem two_lies {lo g : Nat} {w : World} {fs gs : List Fld} {t : TypeId} (k : Blk w g ((fs ++ gs).map Fld.val).toArray t) (hg : lo ≤ g) (hl : lieAll lo w fs) (hl2 : lieAll lo w gs) : (Fld.l (some ⟨g, 0, none⟩) 2 [fs, gs]).lies lo w := by
 refine ⟨by simp, by unfold maxLen; omega, .inr ⟨g, 0, rfl, hg, k.lt, ?_, ?_, trivial⟩⟩
 ·exact cellsLie_of fs 0 hl (fun j v hv => by
   rw [Nat.zero_add, k.cell];have hj : j < (fs.map Fld.val).length := (List.getElem?_eq_some_iff.1 hv).1;simp only [List.map_append, List.getElem?_toArray]
   rw [List.getElem?_append_left hj]; exact hv)
 ·exact cellsLie_of gs (0 + fs.length) hl2 (fun j v hv => by
   rw [k.cell];simp only [List.map_append, List.getElem?_toArray];rw [List.getElem?_append_right (by simp)];have : 0 + fs.length + j - (fs.map Fld.val).length = j := by simp
   rw [this]; exact hv)
theorem cells_apart {b : Nat} : ∀ {fs : List Fld}, apartAll b fs → cellsApart b fs
 | [], _ => trivial
 | f :: fs, h => ⟨h f (by simp), cells_apart fun g hg => h g (by simp [hg])⟩
theorem expr_b {n : Nat} (H : ExL (n + 1)) : ExC (n + 1) := by
 intro r hr1 hr7 b S w R hn;have zb := R.lt;have bA : Below w.heap.size w (w.alloc (.cells #[.int .i64 0, .int .i64 0, .string ⟨#[]⟩, .slice none 0 0] 80)) := (Below.refl _ _).alloc (Nat.le_refl _) _;have kA := Blk.new w #[.int .i64 0, .int .i64 0, .string ⟨#[]⟩, .slice none 0 0] 80;have RA := R.below bA;have BA : But (fun k => k = b) w (w.alloc (.cells #[.int .i64 0, .int .i64 0, .string ⟨#[]⟩, .slice none 0 0] 80)) := But.of_below bA;have hzA : w.heap.size < (w.alloc (.cells #[.int .i64 0, .int .i64 0, .string ⟨#[]⟩, .slice none 0 0] 80)).heap.size := kA.lt
 go_enter Tryz.func81, Tryz.ntmps81
 go_upto_region 1 with fail
 generalize w.alloc (.cells #[.int .i64 0, .int .i64 0, .string ⟨#[]⟩, .slice none 0 0] 80) = wA at *
 clear bA
 by_cases h7 : r = 7
 ·subst h7
  go_wp2_with fail
  refine (atom_b (N := n) (fun m hm => H m (by omega)) b S wA RA (by omega)).mono ?_;rintro e w1 ⟨op, m, s, la, lc, es, rfl, hl, B1, S1, R1, hd1, h1⟩;unfold exC;have k1 := B1.blk kA (by omega);obtain ⟨z1, ⟨c0, c1, c2, c3⟩, f0, f1, f2, f3⟩ := k1.four;have B01 := bbut BA B1
  have HR : Hid (Rel (exprT (n + 1) 7) S (pvAll (exF op m s la lc es)) S1) := by
   show Rel (exprT (n + 1) 7) S _ _;rw [exprT, if_pos rfl];exact h1
  clear h1
  go_wp2
  exact ex_give Tryz.results81 rfl rfl k1 zb (Nat.le_refl _) hzA hl B01 R1 hd1 HR.out
 have h7' : (r == 7) = false := by simpa using h7
 by_cases h3 : r = 3
 ·subst h3;have K1 := is_b kNot b S wA RA;obtain ⟨x, Hx⟩ : ∃ x, Hid (x = stands kNot S) := ⟨_, rfl⟩;rw [← Hx.out] at K1
  go_wp2_with fail
  refine K1.mono ?_;rintro e w1 ⟨rfl, B1, R1⟩;have k1 := B1.blk kA (by omega);have B01 := bbut BA B1;have hz1 := k1.lt
  cases x with
  | true =>
   obtain ⟨n', hn'⟩ : ∃ n', n = n' + 1 := ⟨n - 1, by omega⟩;have Kn := not_b (n := n') (H n' (by omega)) b S w1 R1 Hx.out.symm (by omega);rw [← hn'] at Kn;clear hn'
   go_wp2_with fail
   refine Kn.mono ?_;rintro e w2 ⟨op, m, s, la, lc, es, rfl, hl, B2, S2, R2, hd2, h2⟩;unfold exC;have k2 := B2.blk k1 (by omega);obtain ⟨z1, ⟨c0, c1, c2, c3⟩, f0, f1, f2, f3⟩ := k2.four;have B02 := bbut B01 B2
   have HR : Hid (Rel (exprT (n + 1) 3) S (pvAll (exF op m s la lc es)) S2) := by
    show Rel (exprT (n + 1) 3) S _ _;rw [exprT, if_neg (by omega), if_pos rfl];refine (rel_is kNot S).bind ?_;rw [← Hx.out];exact h2
   clear h2 Hx
   go_wp2
   exact ex_give Tryz.results81 rfl rfl k2 zb (Nat.le_refl _) hz1 hl B02 R2 hd2 HR.out
  | false =>
   go_wp2_with fail
   refine (H n (by omega) 4 (by omega) (by omega) b S w1 R1 (by omega)).mono ?_;rintro e w2 ⟨op, m, s, la, lc, es, rfl, hl, B2, S2, R2, hd2, h2⟩;unfold exC;have k2 := B2.blk k1 (by omega);obtain ⟨z1, ⟨c0, c1, c2, c3⟩, f0, f1, f2, f3⟩ := k2.four;have B02 := bbut B01 B2
   have HR : Hid (Rel (exprT (n + 1) 3) S (pvAll (exF op m s la lc es)) S2) := by
    show Rel (exprT (n + 1) 3) S _ _;rw [exprT, if_neg (by omega), if_pos rfl];refine (rel_is kNot S).bind ?_;rw [← Hx.out, if_neg Bool.false_ne_true];exact h2
   clear h2 Hx
   go_wp2
   exact ex_give Tryz.results81 rfl rfl k2 zb (Nat.le_refl _) hz1 hl B02 R2 hd2 HR.out
 have h3' : (r == 3) = false := by simpa using h3
 go_wp2_with fail
 refine (H n (by omega) (r + 1) (by omega) (by omega) b S wA RA (by omega)).mono ?_;rintro e w1 ⟨op1, m1, s1, la1, lc1, es1, rfl, hl1, B1, S1, R1, hd1, h1⟩;unfold exC;have k1 := B1.blk kA (by omega);have B01 := bbut BA B1;have hz1 := k1.lt;have hzz1 := B1.size;have bC : Below w1.heap.size w1 (w1.alloc (.cells #[.int .i64 op1, .int .i64 m1, .string (str s1), .slice la1 es1.length lc1] 80)) := (Below.refl _ _).alloc (Nat.le_refl _) _;have kC := Blk.new w1 #[.int .i64 op1, .int .i64 m1, .string (str s1), .slice la1 es1.length lc1] 80;have k2 := k1.below bC k1.lt;have R2 := R1.below bC;have B02 := bal B01 (.cells #[.int .i64 op1, .int .i64 m1, .string (str s1), .slice la1 es1.length lc1] 80);have hl2 := hl1.hi (Hi.of_below (lo := wA.heap.size) bC);have hl0 := hl1
 have HK0 : Hid (∀ y S', Rel (loopT n r (pvAll (exF op1 m1 s1 la1 lc1 es1))) S1 y S' → Rel (exprT (n + 1) r) S y S') := by
  intro y S' hy;show Rel (exprT (n + 1) r) S _ _;rw [exprT, if_neg h7, if_neg h3];exact h1.bind hy
 clear kA RA BA B1 k1 B01 R1 hl1 h1 bC
 go_upto_region 8 with fail
 obtain ⟨x5, Hx5⟩ : ∃ x5, Hid (x5 = w1.heap.size) := ⟨_, rfl⟩;have hx5 : w.heap.size < x5 ∧ wA.heap.size ≤ x5 := by rw [Hx5.out]; omega
 have hxu : w1.heap.size ≤ x5 := by rw [Hx5.out]; exact Nat.le_refl _
 rw [← Hx5.out] at kC;rw [← Hx5.out]
 generalize w1.alloc (.cells #[.int .i64 op1, .int .i64 m1, .string (str s1), .slice la1 es1.length lc1] 80) = w2 at *
 clear Hx5 hz1 hzz1;have K3 := oper_b r b S1 w2 R2;obtain ⟨op3, Hop3⟩ : ∃ op3, Hid (op3 = pickI (operW r) S1) := ⟨_, rfl⟩;rw [← Hop3.out] at K3
 go_wp2_with fail
 refine K3.mono ?_;rintro e w3 ⟨rfl, B3, R3⟩;have k3 := B3.blk k2 (by omega);have kD := B3.blk kC (by omega);have B03 := bbut B02 B3;have hl3 := hl2.hi (Hi.of_but (lo := wA.heap.size) B3 (fun k q => by omega));clear K3 k2 kC R2 B02 hl2 B3
 go_wp2_with fail
 have hz3 := kD.lt
 go_loopw [6] (fun ov wv => ∃ op m s la lc es S1 q, ov = .int .i64 (pickI (operW r) S1) ∧ Blk wv x5 #[.int .i64 op, .int .i64 m, .string (str s), .slice la es.length lc] 80 ∧ Blk wv w.heap.size #[.int .i64 0, .int .i64 0, .string ⟨#[]⟩, .slice none 0 0] 80 ∧ lieAll wA.heap.size wv (exF op m s la lc es) ∧ apartAll x5 (exF op m s la lc es) ∧ But (fun k => k = b) w wv ∧ RAt wv b S1 ∧ q ≤ n ∧ need S1 + 5 ≤ q ∧ need S1 ≤ need S ∧ Hid (∀ y S', Rel (loopT q r (pvAll (exF op m s la lc es))) S1 y S' → Rel (exprT (n + 1) r) S y S')) (fun _ wv => wneed wv b)
 case atStart =>
  exact ⟨op1, m1, s1, la1, lc1, es1, S1, n, by rw [Hop3.out], kD, k3, hl3, fun f hf => Fld.lies_apart (.inr hxu) f (hl0 f hf), B03, R3, Nat.le_refl _, by omega, hd1, HK0⟩
 case round =>
  obtain ⟨op, m, s, la, lc, es, S1, q, rfl, kX, k4, hl, ha, B, Rk, hq, hf, hd, HK⟩ := hrel;have hpb := oper_le r S1;obtain ⟨q', hq'⟩ : ∃ q', q = q' + 1 := ⟨q - 1, by omega⟩;have HQ : Hid (q = q' + 1) := hq';obtain ⟨p, Hp⟩ : ∃ p, Hid (p = pickI (operW r) S1) := ⟨_, rfl⟩;rw [← Hp.out] at hpb;rw [← Hp.out]
  by_cases hp0 : p = 0
  ·subst hp0
   have HR : Hid (Rel (exprT (n + 1) r) S (pvAll (exF op m s la lc es)) S1) := by
    refine HK.out _ _ ?_;rw [HQ.out, loopT];refine (rel_pick (operW r) S1).bind ?_;rw [← Hp.out, if_pos rfl];exact Rel.pur _ _
   obtain ⟨z2, ⟨d0, d1, d2, d3⟩, g0, g1, g2, g3⟩ := kX.four;obtain ⟨z1, ⟨c0, c1, c2, c3⟩, f0, f1, f2, f3⟩ := k4.four;clear HK HQ Hp hq'
   go_wp2
   exact ex_give Tryz.results81 rfl rfl k4 zb (Nat.le_refl _) hzA hl B Rk hd HR.out
  ·have hp0' : (p != 0) = true := by simpa using hp0
   have hHere : Here S1 := Here.of_pick (l := operW r) (by rw [← Hp.out]; exact hp0)
   go_wp2_with fail
   refine (next_u b S1 wr Rk).mono ?_;rintro e w5 ⟨rfl, B5, S5, R5, h5⟩;have hd5 := need_here h5 hHere;have kX5 := B5.blk kX (by omega);have k5 := B5.blk k4 (by omega);have B05 := bbut B B5;have hl5 := hl.hi (Hi.of_but (lo := wA.heap.size) B5 (fun k q => by omega));clear kX k4 B hl B5;obtain ⟨zX, ⟨d0, d1, d2, d3⟩, g0, g1, g2, g3⟩ := kX5.four;have hHeld : w5.drew.cell? ⟨x5, 0, none⟩ = some (.int .i64 op) ∧ w5.drew.cell? ⟨x5, 1, none⟩ = some (.int .i64 m) ∧ w5.drew.cell? ⟨x5, 2, none⟩ = some (.string (str s)) ∧ w5.drew.cell? ⟨x5, 3, none⟩ = some (.slice la es.length lc) := ⟨d0, d1, d2, d3⟩;clear d0 d1 d2 d3 g0 g1 g2 g3
   go_wp2_with fail
   refine wp_region_last (S := fun w' => w'.cell? ⟨x5, 0, none⟩ = some (.int .i64 op) ∧ w'.cell? ⟨x5, 1, none⟩ = some (.int .i64 m) ∧ w'.cell? ⟨x5, 2, none⟩ = some (.string (str s)) ∧ w'.cell? ⟨x5, 3, none⟩ = some (.slice la es.length lc)) 8 _ rfl (by kernel_rfl) (by kernel_rfl) ?_;simp only [List.setIfInBounds_toArray, List.set_cons_zero, List.set_cons_succ];refine tk 0 ?_;refine tk 1 ?_;refine tk 2 ?_;refine tk 3 ?_;refine tk 4 ?_;refine wpAnyH_ready (rs := [5]) (by kernel_rfl) (by simp) ?_;refine AllReadyH.cons rfl (fun K hK => ?_) AllReadyH.nil
   go_simp
   rw [show IntKind.i64.wrap (r + 1) = r + 1 by simp [IntKind.wrap, IntKind.bits, IntKind.signed]; omega];have RD := R5.below ((Below.refl w5.heap.size w5).drew);have kXd := kX5.drew;have k5d := k5.drew;have B05d : But (fun k => k = b) w w5.drew := bbut B05 (But.of_below ((Below.refl w5.heap.size w5).drew));have hl5d : lieAll wA.heap.size w5.drew (exF op m s la lc es) := hl5.hi (Hi.of_below ((Below.refl w5.heap.size w5).drew));have zXd : x5 < w5.drew.heap.size := kXd.lt
   generalize w5.drew = wd at *
   refine (H q' (by omega) (r + 1) (by omega) (by omega) b S5 wd RD (by omega)).mono ?_;rintro e w6 ⟨op6, m6, s6, la6, lc6, es6, rfl, hl6, B6, S6, R6, hd6, h6⟩;unfold exC;have kX6 := B6.blk kXd (by omega);have k6 := B6.blk k5d (by omega);have B06 := bbut B05d B6;have hlx := hl5d.hi (Hi.of_but (lo := wA.heap.size) B6 (fun k q => by omega));have hz6 := B6.size;obtain ⟨zX6, ⟨d0, d1, d2, d3⟩, g0, g1, g2, g3⟩ := kX6.four;refine hK.out _ _ ⟨d0, d1, d2, d3⟩ (fun hHeld2 => ?_);clear hK K kX5 k5 B05 hl5 R5 hHeld RD kXd k5d B05d hl5d;refine wpAnyH_ready (rs := [6]) (by kernel_rfl) (by simp) ?_;refine AllReadyH.cons rfl (fun K hK => ?_) AllReadyH.nil
   go_simp
   have kR := Blk.new w6 #[.int .i64 op, .int .i64 m, .string (str s), .slice la es.length lc, .int .i64 op6, .int .i64 m6, .string (str s6), .slice la6 es6.length lc6] 80;have bE : Below w6.heap.size w6 (w6.alloc (.cells #[.int .i64 op, .int .i64 m, .string (str s), .slice la es.length lc, .int .i64 op6, .int .i64 m6, .string (str s6), .slice la6 es6.length lc6] 80)) := (Below.refl _ _).alloc (Nat.le_refl _) _;have kX7 := kX6.below bE kX6.lt;have k7 := k6.below bE k6.lt;have R7 := R6.below bE;have B07 := bal B06 (.cells #[.int .i64 op, .int .i64 m, .string (str s), .slice la es.length lc, .int .i64 op6, .int .i64 m6, .string (str s6), .slice la6 es6.length lc6] 80);have hlx7 := hlx.hi (Hi.of_below (lo := wA.heap.size) bE);have hly7 := (hl6.hi (Hi.of_below (lo := wd.heap.size) bE)).mono (show wA.heap.size ≤ wd.heap.size by omega);have hay : apartAll x5 (exF op6 m6 s6 la6 lc6 es6) := fun f hf => Fld.lies_apart (.inl (show x5 < wd.heap.size by omega)) f (hl6 f hf);obtain ⟨g6, Hg6⟩ : ∃ g6, Hid (g6 = w6.heap.size) := ⟨_, rfl⟩;have hg6 : x5 < g6 ∧ wA.heap.size ≤ g6 := by rw [Hg6.out]; omega
   rw [← Hg6.out] at kR;rw [← Hg6.out]
   generalize w6.alloc (.cells #[.int .i64 op, .int .i64 m, .string (str s), .slice la es.length lc, .int .i64 op6, .int .i64 m6, .string (str s6), .slice la6 es6.length lc6] 80) = w7 at *
   clear Hg6 bE d0 d1 d2 d3 g0 g1 g2 g3 zX6 kX6 k6 R6 B06 hlx hl6 hHeld2;obtain ⟨zX7, ⟨d0, d1, d2, d3⟩, g0, g1, g2, g3⟩ := kX7.four;refine hK.out _ _ ⟨d0, d1, d2, d3⟩ (fun hHeld3 => ?_);clear hK K;refine tk 7 ?_;refine wpAnyH_ready (rs := [8]) (by kernel_rfl) (by simp) ?_;refine AllReadyH.cons rfl (fun K hK => ?_) AllReadyH.nil
   go_simp
   refine hK.out _ _ ⟨d0, d1, d2, d3⟩ (fun _ => ?_);clear hK K hHeld3;refine wpAnyH_done (by kernel_rfl) ?_ _;simp only [ThenLast];refine wpOp_step rfl (fun K hK => ?_)
   go_simp
   refine hK _ _ ?_;clear hK K;have kX8 := (((kX7.set 0 (.int .i64 p)).set 1 (.int .i64 0)).set 2 (.string ⟨#[]⟩)).set 3 (.slice (some ⟨g6, 0, none⟩) 2 2);have Q8 : But (fun k => k = x5) w7 ((((w7.setCell ⟨x5, 0, none⟩ (.int .i64 p)).setCell ⟨x5, 1, none⟩ (.int .i64 0)).setCell ⟨x5, 2, none⟩ (.string ⟨#[]⟩)).setCell ⟨x5, 3, none⟩ (.slice (some ⟨g6, 0, none⟩) 2 2)) := bset (bset (bset (bset (But.refl _ _))));have R8 := (((R7.setOther (x := x5) (i := 0) (v := .int .i64 p) (by omega) (by have := R.gl.sz; omega)).setOther (x := x5) (i := 1) (v := .int .i64 0) (by omega) (by have := R.gl.sz; omega)).setOther (x := x5) (i := 2) (v := .string ⟨#[]⟩) (by omega) (by have := R.gl.sz; omega)).setOther (x := x5) (i := 3) (v := .slice (some ⟨g6, 0, none⟩) 2 2) (by omega) (by have := R.gl.sz; omega);have k8 := Q8.blk k7 (by omega);have kR8 := Q8.blk kR (by omega);have B08 : But (fun k => k = b) w _ := B07.trans_new Q8 (fun k hk q => by omega);have O8 : Off x5 w7 _ := ⟨Q8.size, fun k hk hne => Q8.block k hk hne⟩;have hlx8 : lieAll wA.heap.size _ (exF op m s la lc es) := fun f hf => Fld.lies_off O8 f (hlx7 f hf) (ha f hf);have hly8 : lieAll wA.heap.size _ (exF op6 m6 s6 la6 lc6 es6) := fun f hf => Fld.lies_off O8 f (hly7 f hf) (hay f hf);have lie8 := two_lies (fs := exF op m s la lc es) (gs := exF op6 m6 s6 la6 lc6 es6) kR8 hg6.2 hlx8 hly8
   generalize (((w7.setCell ⟨x5, 0, none⟩ (.int .i64 p)).setCell ⟨x5, 1, none⟩ (.int .i64 0)).setCell ⟨x5, 2, none⟩ (.string ⟨#[]⟩)).setCell ⟨x5, 3, none⟩ (.slice (some ⟨g6, 0, none⟩) 2 2) = w8 at *
   have hz8 : lieAll wA.heap.size w8 (exF p 0 [] (some ⟨g6, 0, none⟩) 2 [exF op m s la lc es, exF op6 m6 s6 la6 lc6 es6]) := exF_lie (by omega) (by omega) lie8;clear d0 d1 d2 d3 g0 g1 g2 g3 zX7 kX7 k7 R7 B07 hlx7 hly7 kR hlx8 hly8 O8 Q8 lie8;try simp only [Exit.then]
   by_cases h4 : r = 4
   ·subst h4
    have HR : Hid (Rel (exprT (n + 1) 4) S (pvAll (exF p 0 [] (some ⟨g6, 0, none⟩) 2 [exF op m s la lc es, exF op6 m6 s6 la6 lc6 es6])) S6) := by
     refine HK.out _ _ ?_;rw [HQ.out, loopT];refine (rel_pick (operW 4) S1).bind ?_;rw [← Hp.out, if_neg hp0];refine Rel.bind (F := nextT) h5 (Rel.bind (F := exprT q' (4 + 1)) h6 ?_);rw [if_pos rfl];exact Rel.pur _ _
    obtain ⟨z2, ⟨d0, d1, d2, d3⟩, g0, g1, g2, g3⟩ := kX8.four;obtain ⟨z1, ⟨c0, c1, c2, c3⟩, f0, f1, f2, f3⟩ := k8.four;clear HK HQ Hp hq' h5 h6
    go_wp2
    exact ex_give (es := [exF op m s la lc es, exF op6 m6 s6 la6 lc6 es6]) (s := []) Tryz.results81 rfl rfl k8 zb (Nat.le_refl _) hzA hz8 B08 R8 (by omega) HR.out
   ·have h4' : (r == 4) = false := by simpa using h4
    have K9 := oper_b r b S6 w8 R8;obtain ⟨p9, Hp9⟩ : ∃ p9, Hid (p9 = pickI (operW r) S6) := ⟨_, rfl⟩;rw [← Hp9.out] at K9
    have HK9 : Hid (∀ y S', Rel (loopT q' r (pvAll (exF p 0 [] (some ⟨g6, 0, none⟩) 2 [exF op m s la lc es, exF op6 m6 s6 la6 lc6 es6]))) S6 y S' → Rel (exprT (n + 1) r) S y S') := by
     intro y S' hy;refine HK.out _ _ ?_;rw [HQ.out, loopT];refine (rel_pick (operW r) S1).bind ?_;rw [← Hp.out, if_neg hp0];refine Rel.bind (F := nextT) h5 (Rel.bind (F := exprT q' (r + 1)) h6 ?_);rw [if_neg h4];exact hy
    have ha9 : apartAll x5 (exF p 0 [] (some ⟨g6, 0, none⟩) 2 [exF op m s la lc es, exF op6 m6 s6 la6 lc6 es6]) := by
     intro f hf;simp only [exF, List.mem_cons, List.not_mem_nil, or_false] at hf;rcases hf with rfl | rfl | rfl | rfl
     ·trivial
     ·trivial
     ·trivial
     ·exact .inr ⟨g6, 0, rfl, by omega, cells_apart ha, cells_apart hay, trivial⟩
    have HW : Hid (∀ w9, RAt w9 b S6 → wneed w9 b < wneed wr b) := by
     intro w9 R9;show _ < _;rw [R9.wneed, Rk.wneed]; omega
    have HFQ : Hid (q' ≤ n ∧ need S6 + 5 ≤ q') := ⟨by omega, by omega⟩;clear HK HQ Hp hq' h5 h6 Rk
    go_wp2_with fail
    refine K9.mono ?_;rintro e w9 ⟨rfl, B9, R9⟩;have k9 := B9.blk k8 (by omega);have kX9 := B9.blk kX8 (by omega);have B09 := bbut B08 B9;have hl9 := hz8.hi (Hi.of_but (lo := wA.heap.size) B9 (fun k q => by omega));have HW9 : Hid (wneed w9 b < wneed wr b) := HW.out w9 R9;clear K9 k8 kX8 B08 hz8 B9 R8 HW
    go_wp2
    exact ⟨⟨p, 0, [], some ⟨g6, 0, none⟩, 2, [exF op m s la lc es, exF op6 m6 s6 la6 lc6 es6], S6, q', by rw [Hp9.out], kX9, k9, hl9, ha9, B09, R9, HFQ.out.1, HFQ.out.2, by omega, HK9⟩, HW9.out⟩
theorem expr_all : ∀ N, ExC N := by
 intro N
 induction N using Nat.strongRecOn with
 | _ N ih =>
  cases N with
  | zero =>
   intro r h1 h7 b S w R hn;omega
  | succ n => exact expr_b ih
end Go.Proofs.YtpofgnlkhkednaaGreatDoor
