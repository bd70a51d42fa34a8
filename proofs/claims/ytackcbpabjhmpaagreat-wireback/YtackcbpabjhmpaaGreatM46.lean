import Derived.Test.YtackcbpabjhmpaaGreatJN9
namespace Go.Proofs.YtackcbpabjhmpaaGreat
open Go.RowKit
set_option linter.unusedVariables false
set_option linter.unusedSimpArgs false
theorem pvote_reads : Reads 49 Vote.sc := pvote_g.2
theorem pmotion_reads : Reads 235 Motion.sc := pmotion_g.2
theorem pknown_reads : Reads 237 Known.sc := pknown_g.2
set_option maxHeartbeats 3200000 in
theorem precord_rd (b xb : Nat) (cs : Array Value) (t : TypeId) (s : List UInt8) (w : World) (h : At b xb 0 cs t recZ s w) :
  Calls Tryz.prog 186 #[.pointer (some ⟨b, 0, none⟩), .pointer (some ⟨xb, 0, none⟩)] w fun e w' => RecE b xb cs t s w e w' := by
 have A0 : Hid (At b xb 0 cs t recZ s w) := h
 clear h
 go_enter Tryz.func186, Tryz.ntmps186
 go_wp2_with fail
 refine (number_reads b xb 0 cs t s w A0.out.left).mono ?_
 rintro e w1 ⟨B1, ⟨er, h3, rfl⟩ | ⟨fs, r, h3, rfl, k1, x1, l1⟩⟩
 ·have HF : Hid (RecE b xb cs t s w (refusedE er) w1) := ⟨B1, .inl ⟨er, by
   unfold readRec
   cases hn : numP 1099511627775 s with
   | error e => simp [readAll, Sc.read, hn] at h3; simp [h3]
   | ok p => simp [readAll, Sc.read, hn] at h3, rfl⟩⟩
  clear h3 A0
  unfold refusedE at *
  go_wp2
  exact ⟨rfl, HF.out⟩
 ·obtain ⟨k, rfl⟩ := int_of fs (readAll_fits _ _ _ _ h3)
  have hn : numP 1099511627775 s = .ok (k, r) := by
   cases hn : numP 1099511627775 s with
   | error e => simp [readAll, Sc.read, hn] at h3
   | ok p =>
    obtain ⟨n, q⟩ := p
    simp [readAll, Sc.read, hn, pvAll, intF, Fld.pv] at h3
    rw [h3.1, h3.2]
  have x1 : Blk w1 xb (putAt cs 0 [.int .i64 k]) t := x1
  have hlen : r.length ≤ 1099511627000 := Nat.le_trans (readAll_short _ _ _ _ h3) A0.out.len
  have hz0 : ZeroAt (putAt cs 0 [.int .i64 k]) 1 (Vote.sc ++ (Motion.sc ++ Known.sc)) := A0.out.z.right (a := [numC]) rfl
  have HP : Hid (∀ e w', RdE b xb (recOff k) (putAt cs 0 [.int .i64 k]) t (recSc k) r w1 e w' → RecE b xb cs t s w e w') := fun e w' q => rec_of_part B1 A0.out.lb A0.out.x.lt hn q
  have A1 : Hid (At b xb 1 (putAt cs 0 [.int .i64 k]) t Vote.sc r w1) := ⟨k1, x1, A0.out.ne, hz0.left, hlen⟩
  have A2 : Hid (At b xb 7 (putAt cs 0 [.int .i64 k]) t Motion.sc r w1) := ⟨k1, x1, A0.out.ne, hz0.drop.left, hlen⟩
  have A3 : Hid (At b xb 21 (putAt cs 0 [.int .i64 k]) t Known.sc r w1) := ⟨k1, x1, A0.out.ne, hz0.drop.drop, hlen⟩
  have HN : Hid (RdE b xb 0 (putAt cs 0 [.int .i64 k]) t [] r w1 (.returned (.tuple #[])) w1) := RdE.nil k1 x1
  have c0 : w1.cell? ⟨xb, 0, none⟩ = some (.int .i64 k) := by
   rw [x1.cell 0]
   have := putAt_in [.int .i64 k] cs 0 0 (by have := A0.out.z.lt; simp; omega) (by simp)
   exact this
  have zx := x1.lt
  clear h3 hn hlen hz0 A0 k1 x1 l1
  by_cases e1 : k = 1
  ·subst e1
   go_wp2_with fail
   refine (pvote_reads b xb 1 _ t r w1 A1.out).mono ?_
   intro e w2 hE
   have HF : Hid (RecE b xb cs t s w e w2) := HP.out _ _ hE
   rcases hE.2 with ⟨er, _, rfl⟩ | ⟨fs, q, _, rfl, _⟩
   ·clear hE HP A1 A2 A3 HN
    unfold refusedE at *
    go_wp2
    exact ⟨rfl, HF.out⟩
   ·clear hE HP A1 A2 A3 HN
    go_wp2
    go_end0
    exact HF.out
  by_cases e2 : k = 2
  ·subst e2
   clear e1
   go_wp2_with fail
   refine (pmotion_reads b xb 7 _ t r w1 A2.out).mono ?_
   intro e w2 hE
   have HF : Hid (RecE b xb cs t s w e w2) := HP.out _ _ hE
   rcases hE.2 with ⟨er, _, rfl⟩ | ⟨fs, q, _, rfl, _⟩
   ·clear hE HP A1 A2 A3 HN
    unfold refusedE at *
    go_wp2
    exact ⟨rfl, HF.out⟩
   ·clear hE HP A1 A2 A3 HN
    go_wp2
    go_end0
    exact HF.out
  by_cases e3 : k = 3
  ·subst e3
   clear e1 e2
   go_wp2_with fail
   refine (pknown_reads b xb 21 _ t r w1 A3.out).mono ?_
   intro e w2 hE
   have HF : Hid (RecE b xb cs t s w e w2) := HP.out _ _ hE
   rcases hE.2 with ⟨er, _, rfl⟩ | ⟨fs, q, _, rfl, _⟩
   ·clear hE HP A1 A2 A3 HN
    unfold refusedE at *
    go_wp2
    exact ⟨rfl, HF.out⟩
   ·clear hE HP A1 A2 A3 HN
    go_wp2
    go_end0
    exact HF.out
  by_cases e4 : k = 4
  ·subst e4
   clear e1 e2 e3
   go_wp2_with fail
   refine (pknown_reads b xb 21 _ t r w1 A3.out).mono ?_
   intro e w2 hE
   have HF : Hid (RecE b xb cs t s w e w2) := HP.out _ _ hE
   rcases hE.2 with ⟨er, _, rfl⟩ | ⟨fs, q, _, rfl, _⟩
   ·clear hE HP A1 A2 A3 HN
    unfold refusedE at *
    go_wp2
    exact ⟨rfl, HF.out⟩
   ·clear hE HP A1 A2 A3 HN
    go_wp2
    go_end0
    exact HF.out
  ·have HF : Hid (RecE b xb cs t s w (.returned (.tuple #[])) w1) := HP.out _ _ (by
    have a1 : recSc k = [] := by simp [recSc, e1, e2, e3, e4]
    have a2 : recOff k = 0 := by simp [recOff, e1, e2, e3, e4]
    rw [a1, a2]
    exact HN.out)
   clear HP A1 A2 A3 HN
   go_wp2
   go_end0
   exact HF.out
theorem lNote_rd (b xb o : Nat) (cs : Array Value) (t : TypeId) (most : Int) (s : List UInt8) (w : World) (hm : 0 ≤ most ∧ most ≤ 1000) (h : At b xb o cs t [.list most pairSc] s w) :
  Calls Tryz.prog 262 #[.pointer (some ⟨b, 0, none⟩), .pointer (some ⟨xb, o, none⟩), .int .i64 most, .func (.func 263) #[] #[]] w fun e w' => RdE b xb o cs t [.list most pairSc] s w e w' := (lNote_g hm).2 b xb o cs t s w h
structure N3 (b cb xb o i : Nat) (cs : Array Value) (t : TypeId) (s : List UInt8) (w0 : World) (vs : List Int) (r : List UInt8) (w : World) : Prop where
 len : vs.length = i
 ok : readAll (List.replicate i numC) s = .ok (vs.map Pv.i, r)
 rd : RdAt w b r
 c : Blk w cb #[.int .i64 (vs.getD 0 0)] 3
 x : Blk w xb (putAt cs (o + 1) ((vs.drop 1).map fun v => .int .i64 v)) t
 but : But (fun k => k = b ∨ k = cb ∨ k = xb) w0 w
def N3E (b cb xb o : Nat) (cs : Array Value) (t : TypeId) (s : List UInt8) (w : World) (e : Ending) (w' : World) : Prop :=
 But (fun k => k = b ∨ k = cb ∨ k = xb) w w' ∧ ((∃ er, readAll (List.replicate 3 numC) s = .error er ∧ e = refusedE er) ∨ ∃ vs r, e = .returned (.tuple #[]) ∧ N3 b cb xb o 3 cs t s w vs r w')
theorem readAll_snoc {i : Nat} {s r q : List UInt8} {vs : List Pv} {n : Int} (h : readAll (List.replicate i numC) s = .ok (vs, r)) (g : readAll [numC] r = .ok ([.i n], q)) : readAll (List.replicate (i + 1) numC) s = .ok (vs ++ [.i n], q) := by
 rw [List.replicate_succ', readAll_app, h]
 simp [andR, g]
theorem readAll_fails {i k : Nat} {s r : List UInt8} {vs : List Pv} {er : Int} (h : readAll (List.replicate i numC) s = .ok (vs, r)) (g : readAll [numC] r = .error er) (hk : i < k) : readAll (List.replicate k numC) s = .error er := by
 have e : List.replicate k numC = List.replicate i numC ++ ([numC] ++ List.replicate (k - i - 1) numC) := by
  rw [show [numC] = List.replicate 1 numC from rfl, List.replicate_append_replicate, List.replicate_append_replicate]
  congr 1
  omega
 rw [e, readAll_app, h]
 simp only [andR]
 rw [readAll_app, g]
 rfl
theorem N3.next {b cb xb o i : Nat} {cs : Array Value} {t : TypeId} {s : List UInt8} {w0 : World} {vs : List Int} {r : List UInt8} {w w1 : World} {e : Ending} (h : N3 b cb xb o i cs t s w0 vs r w) (hi : i < 3) (hb : cb ≠ b ∧ cb ≠ xb ∧ xb ≠ b) (yb yo : Nat) (ys : Array Value) (ty : TypeId) (hy : (i = 0 ∧ yb = cb ∧ yo = 0 ∧ ys = #[.int .i64 0] ∧ ty = 3) ∨ (0 < i ∧ yb = xb ∧ yo = o + i ∧ ys = putAt cs (o + 1) ((vs.drop 1).map fun v => .int .i64 v) ∧ ty = t)) (hE : RdE b yb yo ys ty [numC] r w e w1) :
  (∃ er, e = refusedE er ∧ N3E b cb xb o cs t s w0 (refusedE er) w1) ∨ (e = .returned (.tuple #[]) ∧ ∃ vs' r', N3 b cb xb o (i + 1) cs t s w0 vs' r' w1) := by
 obtain ⟨hB, hE⟩ := hE
 have hB' : But (fun k => k = b ∨ k = cb ∨ k = xb) w w1 := hB.mono fun k q => by
  rcases q with q | q
  ·exact .inl q
  ·rcases hy with ⟨_, e1, _⟩ | ⟨_, e1, _⟩
   ·exact .inr (.inl (q.trans e1))
   ·exact .inr (.inr (q.trans e1))
 rcases hE with ⟨er, h1, rfl⟩ | ⟨fs, q, h1, rfl, h3, h4, h5⟩
 ·exact .inl ⟨er, rfl, h.but.trans hB', .inl ⟨er, readAll_fails h.ok h1 hi, rfl⟩⟩
 ·obtain ⟨n, rfl⟩ := int_of fs (readAll_fits _ _ _ _ h1)
  have hr : readAll [numC] r = .ok ([.i n], q) := by simpa [intF, pvAll, Fld.pv] using h1
  refine .inr ⟨rfl, vs ++ [n], q, by simp [h.len], by rw [List.map_append]; exact readAll_snoc h.ok hr, h3, ?_, ?_, h.but.trans hB'⟩
  ·rcases hy with ⟨e0, rfl, rfl, rfl, rfl⟩ | ⟨e0, rfl, rfl, rfl, rfl⟩
   ·have : vs = [] := List.eq_nil_of_length_eq_zero (by rw [h.len, e0])
    subst this
    exact h4
   ·have := hB.blk h.c (fun q => by rcases q with q | q; exact hb.1 q; exact hb.2.1 q)
    cases vs with
    | nil => have := h.len; simp at this; omega
    | cons v vs => exact this
  ·rcases hy with ⟨e0, rfl, rfl, rfl, rfl⟩ | ⟨e0, rfl, rfl, rfl, rfl⟩
   ·have : vs = [] := List.eq_nil_of_length_eq_zero (by rw [h.len, e0])
    subst this
    exact hB.blk h.x (fun q => by rcases q with q | q; exact hb.2.2 q; exact hb.2.1 q.symm)
   ·have hl := h.len
    rw [List.drop_append_of_le_length (by omega), List.map_append, putAt_app]
    rw [List.length_map, List.length_drop, hl, show o + 1 + (i - 1) = o + i by omega]
    exact h4
set_option maxHeartbeats 1600000 in
theorem numbers3 (b cb xb lb cap o : Nat) (cs : Array Value) (t : TypeId) (s : List UInt8) (w : World) (rd : RdAt w b s) (kc : Blk w cb #[.int .i64 0] 3) (kx : Blk w xb cs t) (hz1 : cs[o + 1]? = some (.int .i64 0)) (hz2 : cs[o + 2]? = some (.int .i64 0)) (hb : cb ≠ b ∧ cb ≠ xb ∧ xb ≠ b) (hL : s.length ≤ 1099511627000) (hlb : lb < w.heap.size) (hl : lb ≠ b ∧ lb ≠ cb ∧ lb ≠ xb)
  (h0 : w.cell? ⟨lb, 0, none⟩ = some (.pointer (some ⟨cb, 0, none⟩))) (h1 : w.cell? ⟨lb, 1, none⟩ = some (.pointer (some ⟨xb, o + 1, none⟩))) (h2 : w.cell? ⟨lb, 2, none⟩ = some (.pointer (some ⟨xb, o + 2, none⟩))) :
  Calls Tryz.prog 124 #[.pointer (some ⟨b, 0, none⟩), .slice (some ⟨lb, 0, none⟩) 3 cap] w fun e w' => N3E b cb xb o cs t s w e w' := by
 have H0 : Hid (N3 b cb xb o 0 cs t s w [] s w) := ⟨rfl, rfl, rd, kc, kx, But.refl _ _⟩
 have HA : Hid (∀ i, i < 3 → w.cell? ⟨lb, i, none⟩ = some (.pointer (some ⟨if i = 0 then cb else xb, if i = 0 then 0 else o + i, none⟩))) := fun i hi => by
  match i, hi with
  | 0, _ => exact h0
  | 1, _ => exact h1
  | 2, _ => exact h2
 have HZ : Hid (cs[o + 1]? = some (.int .i64 0) ∧ cs[o + 2]? = some (.int .i64 0)) := ⟨hz1, hz2⟩
 have HB : Hid (cb ≠ b ∧ cb ≠ xb ∧ xb ≠ b) := hb
 have HL : Hid (s.length ≤ 1099511627000) := hL
 have Hl : Hid (lb ≠ b ∧ lb ≠ cb ∧ lb ≠ xb) := hl
 clear h0 h1 h2 rd kc kx hz1 hz2 hb hL hl
 go_enter Tryz.func124, Tryz.ntmps124
 go_wp2
 go_loopw [5, 8] (fun _ iv wv => ∃ (i : Nat) (vs : List Int) (r : List UInt8), i ≤ 3 ∧ iv = .int .i64 i ∧ Hid (N3 b cb xb o i cs t s w vs r wv)) (fun _ iv _ => 3 - (intOf iv).toNat)
 case atStart => exact ⟨0, [], s, by omega, rfl, H0⟩
 case round =>
  obtain ⟨i, vs, r, hi, rfl, H⟩ := hrel
  clear H0
  by_cases hlt : i < 3
  ·have hlt' : (i : Int) < 3 := by omega
   have c5 : wr.cell? ⟨lb, i, none⟩ = some (.pointer (some ⟨if i = 0 then cb else xb, if i = 0 then 0 else o + i, none⟩)) := by
    rw [H.out.but.cell (p := ⟨lb, i, none⟩) hlb (fun q => by
     have := Hl.out
     rcases q with q | q | q
     ·exact this.1 q
     ·exact this.2.1 q
     ·exact this.2.2 q)]
    exact HA.out i hlt
   have zl : lb < wr.heap.size := Nat.lt_of_lt_of_le hlb H.out.but.size
   have hrl : r.length ≤ 1099511627000 := Nat.le_trans (readAll_short _ _ _ _ H.out.ok) HL.out
   have K : ∃ yb yo ys ty, (⟨if i = 0 then cb else xb, if i = 0 then 0 else o + i, none⟩ : Addr) = ⟨yb, yo, none⟩ ∧ Hid ((i = 0 ∧ yb = cb ∧ yo = 0 ∧ ys = #[.int .i64 0] ∧ ty = 3) ∨ (0 < i ∧ yb = xb ∧ yo = o + i ∧ ys = putAt cs (o + 1) ((vs.drop 1).map fun v => .int .i64 v) ∧ ty = t)) ∧ At b yb yo ys ty [numC] r wr := by
    by_cases e0 : i = 0
    ·have hv : vs = [] := List.eq_nil_of_length_eq_zero (by rw [H.out.len, e0])
     subst hv
     refine ⟨cb, 0, #[.int .i64 0], 3, by rw [if_pos e0, if_pos e0], .inl ⟨e0, rfl, rfl, rfl, rfl⟩, H.out.rd, H.out.c, HB.out.1, fun j c hj => ?_, hrl⟩
     match j, hj with
     | 0, hj => injection hj with hj; subst hj; rfl
    ·refine ⟨xb, o + i, _, t, by rw [if_neg e0, if_neg e0], .inr ⟨by omega, rfl, rfl, rfl, rfl⟩, H.out.rd, H.out.x, HB.out.2.2, fun j c hj => ?_, hrl⟩
     match j, hj with
     | 0, hj =>
      injection hj with hj
      subst hj
      have hlen := H.out.len
      rw [putAt_off _ _ _ _ (.inr (by rw [List.length_map, List.length_drop, hlen]; omega))]
      rcases (by omega : i = 1 ∨ i = 2) with e | e
      ·subst e; exact HZ.out.1
      ·subst e; exact HZ.out.2
   obtain ⟨yb, yo, ys, ty, ea, hy, hAt⟩ := K
   rw [ea] at c5
   have KK := number_reads b yb yo ys ty r wr hAt
   have HN : Hid (∀ e w1, RdE b yb yo ys ty [numC] r wr e w1 → (∃ er, e = refusedE er ∧ N3E b cb xb o cs t s w (refusedE er) w1) ∨ (e = .returned (.tuple #[]) ∧ ∃ vs' r', N3 b cb xb o (i + 1) cs t s w vs' r' w1)) := fun e w1 hE => H.out.next hlt HB.out yb yo ys ty hy.out hE
   clear ea hy hAt H HA HZ HB HL Hl hrl
   go_wp2_with fail
   refine KK.mono ?_
   clear KK
   intro e w1 hE
   rcases HN.out e w1 hE with ⟨er, rfl, hF⟩ | ⟨rfl, vs', r', hN⟩
   ·have HF : Hid (N3E b cb xb o cs t s w (refusedE er) w1) := hF
    clear hE hF HN
    unfold refusedE at *
    go_wp2
    exact ⟨rfl, HF.out⟩
   ·have HF : Hid (N3 b cb xb o (i + 1) cs t s w vs' r' w1) := hN
    clear hE hN HN
    go_wp2
    exact ⟨⟨i + 1, vs', r', by omega, by go_num, HF⟩, by simp [intOf]; omega⟩
  ·have he : i = 3 := by omega
   subst he
   have HE : Hid (N3E b cb xb o cs t s w (.returned (.tuple #[])) wr) := ⟨H.out.but, .inr ⟨vs, r, rfl, H.out⟩⟩
   clear H
   go_wp2
   go_end0
   exact HE.out
def ResE (b xb : Nat) (t : TypeId) (s : List UInt8) (w : World) (e : Ending) (w' : World) : Prop :=
 But (fun k => k = b ∨ k = xb) w w' ∧ ((∃ er, readAll resSc s = .error er ∧ er ≠ 0 ∧ e = refusedE er) ∨ ∃ fs r, readAll resSc s = .ok (pvAll fs, r) ∧ fitsAll resSc fs ∧ e = .returned (.tuple #[]) ∧ RdAt w' b r ∧ Blk w' xb (fs.map Fld.val).toArray t ∧ lieAll w.heap.size w' fs)
theorem res_split (s : List UInt8) : readAll resSc s = andR (readAll (List.replicate 3 numC) s) (readAll [.list 64 pairSc]) := readAll_app (List.replicate 3 numC) [.list 64 pairSc] s
theorem res_fail {b xb cb : Nat} {t : TypeId} {s : List UInt8} {w w1 w' : World} {er : Int} (hc : w.heap.size ≤ cb) (b1 : Below w.heap.size w w1) (hb : But (fun k => k = b ∨ k = cb ∨ k = xb) w1 w') (h : readAll (List.replicate 3 numC) s = .error er) : ResE b xb t s w (refusedE er) w' := by
 have e : readAll resSc s = .error er := by rw [res_split, h]; rfl
 exact ⟨(But.of_below b1).trans_new hb (fun k hk q => by rcases q with q | q | q; exact .inl q; omega; exact .inr q), .inl ⟨er, e, readAll_ne _ _ _ e, rfl⟩⟩
theorem res_end {b xb : Nat} {t : TypeId} {s r : List UInt8} {w w3 w' : World} {e : Ending} {v0 v1 v2 : Int} (B : But (fun k => k = b ∨ k = xb) w w3) (h3 : readAll (List.replicate 3 numC) s = .ok ([.i v0, .i v1, .i v2], r)) (hE : RdE b xb 3 #[.int .i64 v0, .int .i64 v1, .int .i64 v2, .slice none 0 0] t [.list 64 pairSc] r w3 e w') : ResE b xb t s w e w' := by
 obtain ⟨hb, hE⟩ := hE
 refine ⟨B.trans hb, ?_⟩
 rcases hE with ⟨er, h1, rfl⟩ | ⟨fs, q, h1, rfl, k1, k2, l1⟩
 ·have e : readAll resSc s = .error er := by rw [res_split, h3]; simp [andR, h1]
  exact .inl ⟨er, e, readAll_ne _ _ _ e, rfl⟩
 ·have hl := fits_len (readAll_fits _ _ _ _ h1)
  match fs, hl with
  | [f], _ =>
   have e : readAll resSc s = .ok (pvAll [.i v0, .i v1, .i v2, f], q) := by rw [res_split, h3]; simp [andR, h1, pvAll, Fld.pv]
   have hfit := readAll_fits _ _ _ _ e
   refine .inr ⟨_, q, e, hfit, rfl, k1, k2, ?_⟩
   intro g hg
   simp only [List.mem_cons, List.not_mem_nil, or_false] at hg
   have num : ∀ (i : Nat) (v : Int), resSc[i]? = some numC → ([.i v0, .i v1, .i v2, f] : List Fld)[i]? = some (.i v) → (Fld.i v).lies w.heap.size w' := fun i v a1 a2 => by
    have q := get_fits hfit i a1 a2
    rw [Sc.fits] at q
    exact ⟨by omega, by omega⟩
   rcases hg with rfl | rfl | rfl | rfl
   ·exact num 0 v0 rfl rfl
   ·exact num 1 v1 rfl rfl
   ·exact num 2 v2 rfl rfl
   ·exact Fld.lies_mono B.size _ (l1 _ (by simp))
set_option maxRecDepth 4000 in
set_option maxHeartbeats 3200000 in
theorem presult_rd (b xb : Nat) (t : TypeId) (s : List UInt8) (w : World) (rd : RdAt w b s) (kx : Blk w xb (zArr resSc) t) (hne : xb ≠ b) (hL : s.length ≤ 1099511627000) :
  Calls Tryz.prog 209 #[.pointer (some ⟨b, 0, none⟩), .pointer (some ⟨xb, 0, none⟩)] w fun e w' => ResE b xb t s w e w' := by
 have kx' : Blk w xb #[.int .i64 0, .int .i64 0, .int .i64 0, .slice none 0 0] t := kx
 have c0 : w.cell? ⟨xb, 0, none⟩ = some (.int .i64 0) := (kx'.cell 0).trans rfl
 have zx := kx'.lt
 have zb : b < w.heap.size := Blk.lt rd
 have HR : Hid (RdAt w b s) := rd
 have HX : Hid (Blk w xb #[.int .i64 0, .int .i64 0, .int .i64 0, .slice none 0 0] t) := kx'
 clear rd kx kx'
 go_enter Tryz.func209, Tryz.ntmps209
 go_wp2_with fail
 have bA : Below w.heap.size w ((w.alloc (.cells #[.int .i64 0] 3)).alloc (.cells #[.pointer (some ⟨w.heap.size, 0, none⟩), .pointer (some ⟨xb, 1, none⟩), .pointer (some ⟨xb, 2, none⟩)] 187)).drew := (((Below.refl _ _).alloc (Nat.le_refl _) _).alloc (by simp) _).drew
 have kc : Blk ((w.alloc (.cells #[.int .i64 0] 3)).alloc (.cells #[.pointer (some ⟨w.heap.size, 0, none⟩), .pointer (some ⟨xb, 1, none⟩), .pointer (some ⟨xb, 2, none⟩)] 187)).drew w.heap.size #[.int .i64 0] 3 := ((Blk.new w _ _).alloc _).drew
 have kP : Blk ((w.alloc (.cells #[.int .i64 0] 3)).alloc (.cells #[.pointer (some ⟨w.heap.size, 0, none⟩), .pointer (some ⟨xb, 1, none⟩), .pointer (some ⟨xb, 2, none⟩)] 187)).drew (w.heap.size + 1) #[.pointer (some ⟨w.heap.size, 0, none⟩), .pointer (some ⟨xb, 1, none⟩), .pointer (some ⟨xb, 2, none⟩)] 187 := by
  have q := (Blk.new (w.alloc (.cells #[.int .i64 0] 3)) #[.pointer (some ⟨w.heap.size, 0, none⟩), .pointer (some ⟨xb, 1, none⟩), .pointer (some ⟨xb, 2, none⟩)] 187).drew
  rw [World.size_alloc] at q
  exact q
 have K := numbers3 b w.heap.size xb (w.heap.size + 1) 3 0 #[.int .i64 0, .int .i64 0, .int .i64 0, .slice none 0 0] t s ((w.alloc (.cells #[.int .i64 0] 3)).alloc (.cells #[.pointer (some ⟨w.heap.size, 0, none⟩), .pointer (some ⟨xb, 1, none⟩), .pointer (some ⟨xb, 2, none⟩)] 187)).drew (Blk.below HR.out bA zb) kc (HX.out.below bA zx) rfl rfl ⟨by omega, by omega, hne⟩ hL kP.lt ⟨by omega, by omega, by omega⟩ ((kP.cell 0).trans rfl) ((kP.cell 1).trans rfl) ((kP.cell 2).trans rfl)
 have zc := kc.lt
 clear kP kc
 refine wp_region_any (by kernel_rfl) ?_
 change wpAny _ _ _ _ _ _ _ (World.drew _)
 refine wpAny_take (i := 0) (v := ?_) rfl (by kernel_rfl) (by kernel_rfl) (by kernel_rfl) (fun _ _ _ h => h) (Or.inl ⟨by rfl, ?_⟩) ?_
 rotate_left
 ·intro w
  go_simp
  try (with_reducible rfl)
 refine wpAny_take (i := 1) (v := ?_) rfl (by kernel_rfl) (by kernel_rfl) (by kernel_rfl) (fun _ _ _ h => h) (Or.inl ⟨by rfl, ?_⟩) ?_
 rotate_left
 ·intro w
  go_simp
  try (with_reducible rfl)
 refine wpAny_take (i := 2) (v := ?_) rfl (by kernel_rfl) (by kernel_rfl) (by kernel_rfl) (fun _ _ _ h => h) (Or.inl ⟨by rfl, ?_⟩) ?_
 rotate_left
 ·intro w
  go_simp
  try (with_reducible rfl)
 refine wpAny_take (i := 3) (v := ?_) rfl (by kernel_rfl) (by kernel_rfl) (by kernel_rfl) (fun _ _ _ h => h) (Or.inl ⟨by rfl, ?_⟩) ?_
 rotate_left
 ·intro w
  go_simp
  try (with_reducible rfl)
 refine wpAny_take (i := 4) (v := ?_) rfl (by kernel_rfl) (by kernel_rfl) (by kernel_rfl) (fun _ _ _ h => h) (Or.inl ⟨by rfl, ?_⟩) ?_
 rotate_left
 ·intro w
  go_simp
  try (with_reducible rfl)
 refine wpAny_take (i := 5) (v := ?_) rfl (by kernel_rfl) (by kernel_rfl) (by kernel_rfl) (fun _ _ _ h => h) (Or.inl ⟨by rfl, ?_⟩) ?_
 rotate_left
 ·intro w
  go_simp
  try (with_reducible rfl)
 refine wpAny_take (i := 6) (v := ?_) rfl (by kernel_rfl) (by kernel_rfl) (by kernel_rfl) (fun _ _ _ h => h) (Or.inl ⟨by rfl, ?_⟩) ?_
 rotate_left
 ·intro w
  go_simp
  try (with_reducible rfl)
 refine wpAny_ready (rs := [7]) (by kernel_rfl) (by simp) ?_
 refine AllReady.cons rfl (fun K hK => ?_) AllReady.nil
 go_simp
 refine hK _ _ ?_
 clear hK
 refine wpAny_ready (rs := [8]) (by kernel_rfl) (by simp) ?_
 refine AllReady.cons rfl (fun KK hK => ?_) AllReady.nil
 go_simp
 refine (‹Calls _ _ _ _ _›).mono ?_
 rintro e w1 ⟨B1, ⟨er, h1, rfl⟩ | ⟨vs, r, rfl, H⟩⟩
 ·have HF : Hid (ResE b xb t s w (refusedE er) w1) := res_fail (Nat.le_refl _) bA B1 h1
  clear h1 B1 bA HR HX K
  unfold refusedE at *
  exact ⟨rfl, HF.out⟩
 ·have hl := H.len
  match vs, hl with
  | [v0, v1, v2], _ =>
   have kx1 : Blk w1 xb #[.int .i64 0, .int .i64 v1, .int .i64 v2, .slice none 0 0] t := H.x
   have kc1 : Blk w1 w.heap.size #[.int .i64 v0] 3 := H.c
   have h3 : readAll (List.replicate 3 numC) s = .ok ([.i v0, .i v1, .i v2], r) := H.ok
   have x0 : w1.cell? ⟨xb, 0, none⟩ = some (.int .i64 0) := (kx1.cell 0).trans rfl
   have xf := kx1.frozen 0
   have zx1 := kx1.lt
   have e0 : w1.cell? ⟨w.heap.size, 0, none⟩ = some (.int .i64 v0) := (kc1.cell 0).trans rfl
   have zc1 := kc1.lt
   have kx2 : Blk (w1.setCell ⟨xb, 0, none⟩ (.int .i64 v0)) xb #[.int .i64 v0, .int .i64 v1, .int .i64 v2, .slice none 0 0] t := kx1.set 0 _
   have rd2 : RdAt (w1.setCell ⟨xb, 0, none⟩ (.int .i64 v0)) b r := Blk.setOther H.rd ⟨xb, 0, none⟩ (fun q => hne q.symm) _
   have B2 : But (fun k => k = b ∨ k = xb) w (w1.setCell ⟨xb, 0, none⟩ (.int .i64 v0)) := ((But.of_below bA).trans_new B1 (fun k hk q => by rcases q with q | q | q; exact .inl q; omega; exact .inr q)).trans (But.set (S := fun k => k = b ∨ k = xb) w1 (p := ⟨xb, 0, none⟩) (.inr rfl) _)
   have hrl : r.length ≤ 1099511627000 := Nat.le_trans (readAll_short _ _ _ _ h3) hL
   have KN := lNote_rd b xb 3 #[.int .i64 v0, .int .i64 v1, .int .i64 v2, .slice none 0 0] t 64 r _ (by omega) ⟨rd2, kx2, hne, (fun j c hj => by
    match j, hj with
    | 0, hj => injection hj with hj; subst hj; rfl), hrl⟩
   have HE : Hid (∀ e w', RdE b xb 3 #[.int .i64 v0, .int .i64 v1, .int .i64 v2, .slice none 0 0] t [.list 64 pairSc] r (w1.setCell ⟨xb, 0, none⟩ (.int .i64 v0)) e w' → ResE b xb t s w e w') := fun e w' q => res_end B2 h3 q
   clear kx1 kc1 kx2 rd2 B2 h3 H B1 bA K HR HX hrl c0
   refine hK _ _ ?_
   clear hK KK
   refine wpAny_done (by kernel_rfl) ?_ _
   go_wp2_with fail
   refine KN.mono ?_
   clear KN
   intro e w5 hE
   have HF : Hid (ResE b xb t s w e w5) := HE.out e w5 hE
   rcases hE.2 with ⟨er, _, rfl⟩ | ⟨fs, q, _, rfl, _⟩
   ·clear hE HE
    unfold refusedE at *
    go_wp2
    exact ⟨rfl, HF.out⟩
   ·clear hE HE
    go_wp2
    go_end0
    exact HF.out
theorem presult_x : WalkX 209 resultK := ⟨by kernel_rfl, fun b xb t s w h1 h2 h3 h4 => presult_rd b xb t s w h1 h2 h3 h4⟩
end Go.Proofs.YtackcbpabjhmpaaGreat
