/- The program's reader: atoms. -/
import Derived.Test.YtgpjlocgkdlnlaaDoorSAtom
namespace Go.Proofs.YtgpjlocgkdlnlaaDoor
open Go.RowKit
set_option linter.unusedVariables false
set_option linter.unusedSimpArgs false

def nowOf : ES → Tok
  | .error _ => .none
  | .ok σ => σ.now
theorem RAt.now {w : World} {b : Nat} {S : ES} (R : RAt w b S) : w.cell? ⟨b, 1, none⟩ = some (.int .i64 (nowOf S).class) ∧ w.cell? ⟨b, 3, none⟩ = some (.int .i64 (nowOf S).n) ∧ (nowOf S).ok := by
  cases S with
  | ok σ =>
    obtain ⟨k, hr⟩ := R.box
    exact ⟨(k.cell 1).trans rfl, (k.cell 3).trans rfl, hr.2⟩
  | error e =>
    obtain ⟨h0, r, lv, k⟩ := R.box
    exact ⟨(k.cell 1).trans rfl, (k.cell 3).trans rfl, trivial⟩
theorem Rel.at {α : Type} {F G : PM α} {S S' : ES} {x : α} (h : Rel F S x S') (e : ∀ σ, S = .ok σ → F σ = G σ) : Rel G S x S' := by
  cases S with
  | error e => exact h
  | ok σ => unfold Rel at h ⊢; simp only [← e σ rfl]; exact h
theorem pick_mem {l : List (Int × Key)} {S : ES} : pickI l S = 0 ∨ ∃ p ∈ l, pickI l S = p.1 := by
  induction l with
  | nil => exact .inl rfl
  | cons p r ih =>
    obtain ⟨k, s⟩ := p
    rw [pickI]
    split
    · exact .inr ⟨(k, s), by simp, rfl⟩
    · rcases ih with h | ⟨q, h1, h2⟩
      · exact .inl h
      · exact .inr ⟨q, by simp [h1], h2⟩
theorem oper7 {S : ES} : pickI (operW 7) S = 0 ∨ ∃ k : Nat, 20 ≤ k ∧ k ≤ 26 ∧ pickI (operW 7) S = k := by
  rcases pick_mem (l := operW 7) (S := S) with h | ⟨p, h1, h2⟩
  · exact .inl h
  · refine .inr ⟨p.1.toNat, ?_⟩
    have : ∀ p ∈ operW 7, 20 ≤ p.1 ∧ p.1 ≤ 26 := by decide
    have := this p h1
    rw [h2]
    omega
theorem Gl.form {w : World} (h : Gl w) (k : Nat) (h1 : 20 ≤ k) (h2 : k ≤ 26) : w.cell? ⟨3, k * 2 + 1, none⟩ = some (.int .i64 (formI k)) := by
  have h3 : (flatF formL)[k * 2 + 1]? = some (.int .i64 (formI k)) := by
    have : k = 20 ∨ k = 21 ∨ k = 22 ∨ k = 23 ∨ k = 24 ∨ k = 25 ∨ k = 26 := by omega
    rcases this with rfl | rfl | rfl | rfl | rfl | rfl | rfl <;> rfl
  have := h.tab 3 (by omega) (k * 2 + 1) _ h3
  rwa [Nat.zero_add] at this
set_option maxRecDepth 4000 in
set_option maxHeartbeats 6400000 in
theorem atom_b {N : Nat} (H : ExL N) (b : Nat) (S : ES) (w : World) (R : RAt w b S) (hn : need S + 12 ≤ N) : Calls Tryd.prog 83 #[.pointer (some ⟨b, 0, none⟩)] w (ExE b (atomT N) S w) := by
  obtain ⟨n, rfl⟩ : ∃ n, N = n + 1 := ⟨N - 1, by omega⟩
  have zb := R.lt
  have bA : Below w.heap.size w (w.alloc (.cells #[.int .i64 0, .int .i64 0, .string ⟨#[]⟩, .slice none 0 0] 73)) := (Below.refl _ _).alloc (Nat.le_refl _) _
  have kA := Blk.new w #[.int .i64 0, .int .i64 0, .string ⟨#[]⟩, .slice none 0 0] 73
  have RA := R.below bA
  have BA : But (fun k => k = b) w (w.alloc (.cells #[.int .i64 0, .int .i64 0, .string ⟨#[]⟩, .slice none 0 0] 73)) := But.of_below bA
  have hzA : w.heap.size < (w.alloc (.cells #[.int .i64 0, .int .i64 0, .string ⟨#[]⟩, .slice none 0 0] 73)).heap.size := kA.lt
  obtain ⟨n1, n3, hok⟩ := RA.now
  have zbA : b < (w.alloc (.cells #[.int .i64 0, .int .i64 0, .string ⟨#[]⟩, .slice none 0 0] 73)).heap.size := RA.lt
  go_enter Tryd.func83, Tryd.ntmps83
  go_upto_region 1 with fail
  generalize w.alloc (.cells #[.int .i64 0, .int .i64 0, .string ⟨#[]⟩, .slice none 0 0] 73) = wA at *
  clear bA
  by_cases hc3 : ∃ m, nowOf S = .num m
  · obtain ⟨m, hm⟩ := hc3
    rw [hm] at n1 n3 hok
    have n1' : wA.cell? ⟨b, 1, none⟩ = some (.int .i64 3) := n1
    have n3' : wA.cell? ⟨b, 3, none⟩ = some (.int .i64 m) := n3
    have hmb : 0 ≤ m ∧ m ≤ 1099511627775 := hok
    have HH : Hid (Here S ∧ ∀ σ, S = .ok σ → bnd nextT (fun _ => pur (exP 1 m [] [])) σ = atomT (n + 1) σ) := by
      cases S with
      | error e => cases hm
      | ok σ =>
        have hm : σ.now = .num m := hm
        refine ⟨⟨by rw [hm]; simp, by rw [hm]; simp⟩, fun τ e => ?_⟩
        injection e with e
        subst e
        rw [atomT]
        simp only [hm]
    clear n1 n3 hok hm
    have bC : Below wA.heap.size wA (wA.alloc (.cells #[.int .i64 1, .int .i64 m, .string ⟨#[]⟩, .slice none 0 0] 73)) := (Below.refl _ _).alloc (Nat.le_refl _) _
    have kC := Blk.new wA #[.int .i64 1, .int .i64 m, .string ⟨#[]⟩, .slice none 0 0] 73
    have kA' := kA.below bC kA.lt
    go_wp2_with fail
    refine (next_u b S _ (RA.below bC)).mono ?_
    rintro e w1 ⟨rfl, B1, S1, R1, h1⟩
    have hd1 := need_here h1 HH.out.1
    have k1 := B1.blk kA' (by omega)
    have kD := B1.blk kC (by omega)
    have B01 := bbut (bal BA _) B1
    have hz1 := k1.lt
    have HR : Hid (Rel (atomT (n + 1)) S (pvAll (exF 1 m [] none 0 [])) S1) := Rel.at (Rel.bind (G := fun _ => pur (exP 1 m [] [])) h1 (Rel.pur _ _)) HH.out.2
    obtain ⟨z2, ⟨d0, d1, d2, d3⟩, g0, g1, g2, g3⟩ := kD.four
    obtain ⟨z1, ⟨c0, c1, c2, c3⟩, f0, f1, f2, f3⟩ := k1.four
    clear bC kC kA' kA n1' n3' h1
    go_wp2
    exact ex_give (es := []) (s := []) Tryd.results83 rfl rfl k1 zb (Nat.le_refl _) hz1 (exF_lie (by omega) (by omega) (lies_none _ _)) B01 R1 (by omega) HR.out
  · have hc3' : ((nowOf S).class == 3) = false := by
      cases h : nowOf S with
      | num m => exact absurd ⟨m, h⟩ hc3
      | _ => rfl
    by_cases hc2 : ∃ t, nowOf S = .name t
    · obtain ⟨t, ht⟩ := hc2
      rw [ht] at n1
      have n1' : wA.cell? ⟨b, 1, none⟩ = some (.int .i64 2) := n1
      have HH : Hid ((∃ σ t, S = .ok σ ∧ σ.now = .name t) ∧ ∀ σ, S = .ok σ → namedT n σ = atomT (n + 1) σ) := by
        cases S with
        | error e => cases ht
        | ok σ =>
          have ht : σ.now = .name t := ht
          refine ⟨⟨σ, t, rfl, ht⟩, fun τ e => ?_⟩
          injection e with e
          subst e
          rw [atomT]
          simp only [ht]
      clear n1 n3 hok ht hc3 hc3'
      go_wp2_with fail
      refine (named_b (N := n) (fun m hm => H m (by omega)) b S wA RA HH.out.1 (by omega)).mono ?_
      rintro e w1 ⟨op, m, s, la, lc, es, rfl, hl, B1, S1, R1, hd1, h1⟩
      unfold exC
      have k1 := B1.blk kA (by omega)
      obtain ⟨z1, ⟨c0, c1, c2, c3⟩, f0, f1, f2, f3⟩ := k1.four
      have B01 := bbut BA B1
      have HR : Hid (Rel (atomT (n + 1)) S (pvAll (exF op m s la lc es)) S1) := Rel.at h1 HH.out.2
      clear h1
      go_wp2
      exact ex_give Tryd.results83 rfl rfl k1 zb (Nat.le_refl _) hzA hl B01 R1 hd1 HR.out
    · have hc2' : ((nowOf S).class == 2) = false := by
        cases h : nowOf S with
        | name t => exact absurd ⟨t, h⟩ hc2
        | _ => rfl
      have HH : Hid (∀ σ, S = .ok σ → wordT n σ = atomT (n + 1) σ) := by
        intro σ e
        subst e
        rw [atomT]
        cases h : σ.now with
        | num m => exact absurd ⟨m, h⟩ hc3
        | name t => exact absurd ⟨t, h⟩ hc2
        | _ => simp only [h]
      obtain ⟨n', rfl⟩ : ∃ n', n = n' + 1 := ⟨n - 1, by omega⟩
      have K1 := is_b [40] b S wA RA
      obtain ⟨x1, Hx1⟩ : ∃ x, Hid (x = stands [40] S) := ⟨_, rfl⟩
      rw [← Hx1.out] at K1
      clear hc3 hc2 hok
      go_wp2_with fail
      refine K1.mono ?_
      rintro e w1 ⟨rfl, B1, R1⟩
      have k1 := B1.blk kA (by omega)
      have B01 := bbut BA B1
      have hz1 := k1.lt
      clear kA BA RA B1 K1 n1 n3 hc3' hc2'
      cases x1 with
      | true =>
        have hN : 16 ≤ need S := by
          have := Here.of_stands Hx1.out.symm
          cases S with
          | error e => exact this.elim
          | ok σ =>
            have hm : mu σ = σ.rest.length + 1 := by unfold mu; rw [if_neg (by rintro (q | q); exact this.1 q; exact this.2 q)]
            show 16 ≤ 16 * mu σ
            omega
        go_wp2_with fail
        refine (inner_n (N := n') (fun m hm => H m (by omega)) [40] [41] b S w1 R1 (by omega) (by omega)).mono ?_
        rintro e w2 ⟨op, m, s, la, lc, es, rfl, hl, B2, S2, R2, hd2, h2⟩
        unfold exC
        have k2 := B2.blk k1 (by omega)
        obtain ⟨z1, ⟨c0, c1, c2, c3⟩, f0, f1, f2, f3⟩ := k2.four
        have B02 := bbut B01 B2
        have HR : Hid (Rel (atomT (n' + 1 + 1)) S (pvAll (exF op m s la lc es)) S2) := by
          refine Rel.at (F := wordT (n' + 1)) ?_ HH.out
          rw [wordT]
          refine (rel_is [40] S).bind ?_
          rw [← Hx1.out]
          exact h2
        clear h2 Hx1
        go_wp2
        exact ex_give Tryd.results83 rfl rfl k2 zb (Nat.le_refl _) hz1 hl B02 R2 hd2 HR.out
      | false =>
        have K2 := is_b kTrue b S w1 R1
        obtain ⟨x2, Hx2⟩ : ∃ x, Hid (x = stands kTrue S) := ⟨_, rfl⟩
        rw [← Hx2.out] at K2
        go_wp2_with fail
        refine K2.mono ?_
        rintro e w2 ⟨rfl, B2, R2⟩
        have k2 := B2.blk k1 (by omega)
        have B02 := bbut B01 B2
        have hz2 := k2.lt
        clear k1 B01 R1 B2 K2 hz1
        cases x2 with
        | true =>
          go_wp2_with fail
          refine (take_u kTrue b S w2 R2).mono ?_
          rintro e w3 ⟨rfl, B3, S3, R3, h3⟩
          have hd3 := (need_take h3).1
          have k3 := B3.blk k2 (by omega)
          obtain ⟨z1, ⟨c0, c1, c2, c3⟩, f0, f1, f2, f3⟩ := k3.four
          have B03 := bbut B02 B3
          have HR : Hid (Rel (atomT (n' + 1 + 1)) S (pvAll (exF 2 1 [] none 0 [])) S3) := by
            refine Rel.at (F := wordT (n' + 1)) ?_ HH.out
            rw [wordT]
            refine (rel_is [40] S).bind ?_
            rw [← Hx1.out, if_neg Bool.false_ne_true]
            refine Rel.bind (F := isT kTrue) (rel_is kTrue S) ?_
            rw [← Hx2.out]
            exact Rel.bind (G := fun _ => pur (exP 2 1 [] [])) h3 (Rel.pur _ _)
          clear h3 Hx1 Hx2
          go_wp2
          exact ex_give (es := []) (s := []) Tryd.results83 rfl rfl k3 zb (Nat.le_refl _) z1 (exF_lie (by omega) (by omega) (lies_none _ _)) B03 R3 hd3 HR.out
        | false =>
          have K3 := is_b kFalse b S w2 R2
          obtain ⟨x3, Hx3⟩ : ∃ x, Hid (x = stands kFalse S) := ⟨_, rfl⟩
          rw [← Hx3.out] at K3
          go_wp2_with fail
          refine K3.mono ?_
          rintro e w3 ⟨rfl, B3, R3⟩
          have k3 := B3.blk k2 (by omega)
          have B03 := bbut B02 B3
          have hz3 := k3.lt
          clear k2 B02 R2 B3 K3 hz2
          cases x3 with
          | true =>
            go_wp2_with fail
            refine (take_u kFalse b S w3 R3).mono ?_
            rintro e w4 ⟨rfl, B4, S4, R4, h4⟩
            have hd4 := (need_take h4).1
            have k4 := B4.blk k3 (by omega)
            obtain ⟨z1, ⟨c0, c1, c2, c3⟩, f0, f1, f2, f3⟩ := k4.four
            have B04 := bbut B03 B4
            have HR : Hid (Rel (atomT (n' + 1 + 1)) S (pvAll (exF 2 0 [] none 0 [])) S4) := by
              refine Rel.at (F := wordT (n' + 1)) ?_ HH.out
              rw [wordT]
              refine (rel_is [40] S).bind ?_
              rw [← Hx1.out, if_neg Bool.false_ne_true]
              refine Rel.bind (F := isT kTrue) (rel_is kTrue S) ?_
              rw [← Hx2.out, if_neg Bool.false_ne_true]
              refine Rel.bind (F := isT kFalse) (rel_is kFalse S) ?_
              rw [← Hx3.out]
              exact Rel.bind (G := fun _ => pur (exP 2 0 [] [])) h4 (Rel.pur _ _)
            clear h4 Hx1 Hx2 Hx3
            go_wp2
            exact ex_give (es := []) (s := []) Tryd.results83 rfl rfl k4 zb (Nat.le_refl _) z1 (exF_lie (by omega) (by omega) (lies_none _ _)) B04 R4 hd4 HR.out
          | false =>
            have HW : Hid (∀ y S', Rel (bnd (pickT (operW 7)) fun op => if op = 0 then wrongT else bnd nextT fun _ => if formI op = 1 then bnd (innerT n' [40] [41]) fun y => pur (exP op 0 [] [y]) else pur (exP op 0 [] [])) S y S' → Rel (atomT (n' + 1 + 1)) S y S') := by
              intro y S' hy
              refine Rel.at (F := wordT (n' + 1)) ?_ HH.out
              rw [wordT]
              refine (rel_is [40] S).bind ?_
              rw [← Hx1.out, if_neg Bool.false_ne_true]
              refine Rel.bind (F := isT kTrue) (rel_is kTrue S) ?_
              rw [← Hx2.out, if_neg Bool.false_ne_true]
              refine Rel.bind (F := isT kFalse) (rel_is kFalse S) ?_
              rw [← Hx3.out, if_neg Bool.false_ne_true]
              exact hy
            clear HH Hx1 Hx2 Hx3
            have K4 := oper_b 7 b S w3 R3
            obtain ⟨op, Hop⟩ : ∃ op, Hid (op = pickI (operW 7) S) := ⟨_, rfl⟩
            rw [← Hop.out] at K4
            have h7 := oper7 (S := S)
            rw [← Hop.out] at h7
            go_wp2_with fail
            refine K4.mono ?_
            rintro e w4 ⟨rfl, B4, R4⟩
            have k4 := B4.blk k3 (by omega)
            have B04 := bbut B03 B4
            have hz4 := k4.lt
            clear k3 B03 R3 B4 K4 hz3
            rcases h7 with h7 | ⟨k, hk1, hk2, h7⟩
            · subst h7
              go_wp2_with fail
              refine (wrong_u b S w4 R4).mono ?_
              rintro e w5 ⟨rfl, B5, S5, R5, h5⟩
              have hd5 := need_wrong h5
              have k5 := B5.blk k4 (by omega)
              obtain ⟨z1, ⟨c0, c1, c2, c3⟩, f0, f1, f2, f3⟩ := k5.four
              have B05 := bbut B04 B5
              have HR : Hid (Rel (atomT (n' + 1 + 1)) S (pvAll (exF 0 0 [] none 0 [])) S5) := by
                refine HW.out _ _ ((rel_pick (operW 7) S).bind ?_)
                rw [← Hop.out, if_pos rfl]
                cases S with
                | error e => exact h5
                | ok σ => exact h5
              clear h5 HW
              go_wp2
              exact ex_give (es := []) (s := []) Tryd.results83 rfl rfl k5 zb (Nat.le_refl _) z1 (exF_lie (by omega) (by omega) (lies_none _ _)) B05 R5 hd5 HR.out
            · subst h7
              have hk0 : ¬ (k : Int) = 0 := by omega
              have hkb : ((k : Int) == 0) = false := by simpa using hk0
              have hHere : Here S := Here.of_pick (l := operW 7) (by rw [← Hop.out]; exact hk0)
              have HW' : Hid (∀ y S' S5, Rel nextT S () S5 → Rel (if formI k = 1 then bnd (innerT n' [40] [41]) fun y => pur (exP k 0 [] [y]) else pur (exP k 0 [] [])) S5 y S' → Rel (atomT (n' + 1 + 1)) S y S') := by
                intro y S' S5 h5 hy
                refine HW.out _ _ ((rel_pick (operW 7) S).bind ?_)
                rw [← Hop.out, if_neg hk0]
                exact Rel.bind (F := nextT) h5 hy
              clear HW Hop
              go_wp2_with fail
              refine (next_u b S w4 R4).mono ?_
              rintro e w5 ⟨rfl, B5, S5, R5, h5⟩
              have hd5 := need_here h5 hHere
              have k5 := B5.blk k4 (by omega)
              have B05 := bbut B04 B5
              have bC : Below w5.heap.size w5 (w5.alloc (.cells #[.int .i64 k, .int .i64 0, .string ⟨#[]⟩, .slice none 0 0] 73)) := (Below.refl _ _).alloc (Nat.le_refl _) _
              have kC := Blk.new w5 #[.int .i64 k, .int .i64 0, .string ⟨#[]⟩, .slice none 0 0] 73
              have k6 := k5.below bC k5.lt
              have R6 := R5.below bC
              have B06 := bal B05 (.cells #[.int .i64 k, .int .i64 0, .string ⟨#[]⟩, .slice none 0 0] 73)
              have hz5 := k5.lt
              clear k4 B04 R4 B5
              go_upto_region 21 with fail
              generalize w5.alloc (.cells #[.int .i64 k, .int .i64 0, .string ⟨#[]⟩, .slice none 0 0] 73) = w6 at *
              have hf := R6.gl.form k hk1 hk2
              have hzg := R6.gl.sz
              have hk27 : (k : Int) < 27 := by omega
              obtain ⟨fm, Hfm⟩ : ∃ fm, Hid (fm = formI k) := ⟨_, rfl⟩
              rw [← Hfm.out] at hf
              have hzC : w5.heap.size < w6.heap.size := kC.lt
              by_cases hfm : fm = 1
              · subst hfm
                go_wp2_with fail
                refine (inner_n (N := n') (fun m hm => H m (by omega)) [40] [41] b S5 w6 R6 (by omega) (by omega)).mono ?_
                rintro e w7 ⟨op7, m7, s7, la7, lc7, es7, rfl, hl7, B7, S7, R7, hd7, h7⟩
                unfold exC
                have k7 := B7.blk k6 (by omega)
                have kD := B7.blk kC (by omega)
                have B07 := bbut B06 B7
                have hz7 := B7.size
                have row := row_one kD zb (by omega) (by omega : w5.heap.size < w6.heap.size) (by omega) hl7 B07 R7
                have HR : Hid (∀ la, Rel (atomT (n' + 1 + 1)) S (pvAll (exF k 0 [] la 1 [exF op7 m7 s7 la7 lc7 es7])) S7) := by
                  intro la
                  refine HW'.out _ _ S5 h5 ?_
                  rw [if_pos Hfm.out.symm]
                  exact Rel.bind (G := fun y => pur (exP k 0 [] [y])) h7 (Rel.pur _ _)
                obtain ⟨z2, ⟨d0, d1, d2, d3⟩, g0, g1, g2, g3⟩ := kD.four
                clear h5 h7 HW' Hfm hf
                go_upto_region 23 with fail
                obtain ⟨kG, lie8, B08, R8, oth⟩ := row ((w7.setCell ⟨w5.heap.size, 3, none⟩ (.slice (some ⟨w7.heap.size, 0, none⟩) 1 1)).alloc (.cells #[.int .i64 op7, .int .i64 m7, .string (str s7), .slice la7 es7.length lc7] 73)) rfl
                have k8 := oth _ _ _ (by omega) k7
                clear row oth d0 d1 d2 d3 g0 g1 g2 g3 z2 kD k7
                generalize (w7.setCell ⟨w5.heap.size, 3, none⟩ (.slice (some ⟨w7.heap.size, 0, none⟩) 1 1)).alloc (.cells #[.int .i64 op7, .int .i64 m7, .string (str s7), .slice la7 es7.length lc7] 73) = w8 at *
                obtain ⟨z2, ⟨d0, d1, d2, d3⟩, g0, g1, g2, g3⟩ := kG.four
                obtain ⟨z1, ⟨c0, c1, c2, c3⟩, f0, f1, f2, f3⟩ := k8.four
                go_wp2
                exact ex_give (es := [exF op7 m7 s7 la7 lc7 es7]) (s := []) Tryd.results83 rfl rfl k8 zb (Nat.le_refl _) (by omega : w.heap.size < w6.heap.size) (exF_lie (by omega) (by omega) lie8) B08 R8 (by omega) (HR.out _)
              · have hfm' : (fm == 1) = false := by simpa using hfm
                have HR : Hid (Rel (atomT (n' + 1 + 1)) S (pvAll (exF k 0 [] none 0 [])) S5) := by
                  refine HW'.out _ _ S5 h5 ?_
                  rw [if_neg (fun q => hfm (Hfm.out.trans q))]
                  exact Rel.pur _ _
                obtain ⟨z2, ⟨d0, d1, d2, d3⟩, g0, g1, g2, g3⟩ := kC.four
                obtain ⟨z1, ⟨c0, c1, c2, c3⟩, f0, f1, f2, f3⟩ := k6.four
                clear h5 HW' Hfm hfm
                go_wp2
                exact ex_give (es := []) (s := []) Tryd.results83 rfl rfl k6 zb (Nat.le_refl _) (by omega : w.heap.size < w6.heap.size) (exF_lie (by omega) (by omega) (lies_none _ _)) B06 R6 (by omega) HR.out
end Go.Proofs.YtgpjlocgkdlnlaaDoor
