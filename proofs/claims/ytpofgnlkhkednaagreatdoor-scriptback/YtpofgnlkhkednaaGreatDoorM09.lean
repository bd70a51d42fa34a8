import Derived.Test.YtpofgnlkhkednaaGreatDoorM08
namespace Go.Proofs.YtpofgnlkhkednaaGreatDoor
open Go.RowKit
set_option linter.unusedVariables false
set_option linter.unusedSimpArgs false
set_option maxRecDepth 20000
set_option maxHeartbeats 8000000
theorem row_app {lo lo' sz : Nat} {lty ety : TypeId} {z v : Value} {es : List (List Fld)} {gs : List Fld} {w : World} (hu : Tryz.prog.underlying lty = some (.slice ety)) (hi : (Tryz.prog.info? ety).map (fun i => (i.zero, i.size, decide (i.bytes ≤ 1000))) = some (some z, sz, true)) (hzs : z.cells.size = sz) (h0 : 0 < sz)
  (r : RowG lo ety sz v es w) (hl : lieAll lo' w gs) (hlo : lo ≤ lo') (hv : ∀ b, v.ownBlock = some b → b < lo') (hz : gs.length = sz) (hn : es.length ≤ 1000000) (hb : lo' ≤ w.heap.size) :
  ∃ la lc w', (Builtin.append_ #[lty, lty] lty #[v, .slice (some ⟨w.heap.size, 0, none⟩) 1 1]).run Tryz.prog (w.alloc (.cells (gs.map Fld.val).toArray ety)) = .ok (.slice la (es.length + 1) lc) w' ∧ RowG lo ety sz (.slice la (es.length + 1) lc) (es ++ [gs]) w' ∧ But (fun k => v.ownBlock = some k) w w' := by
 obtain ⟨ii, ii1, ii2, ii3, ii4⟩ := info_parts3 hi;obtain ⟨v', w3, hrun, hown, hgrow, hat⟩ := app_one w lo lty ety z sz ii.bytes hu (by rw [ii1, Option.map_some, ii2, ii3]) hzs h0 (of_decide_eq_true ii4) v es.length (flatV es) r.own hn (gs.map Fld.val).toArray (by simp [hz]) (flds_one gs) (by omega);obtain ⟨la, lc, hv'⟩ := slice_shape hown;subst hv';have bA : Below w.heap.size w (w.alloc (.cells (gs.map Fld.val).toArray ety)) := (Below.refl _ _).alloc (Nat.le_refl _) _;have Bg : But (fun k => v.ownBlock = some k) (w.alloc (.cells (gs.map Fld.val).toArray ety)) w3 := ⟨hgrow.os, hgrow.tape, hgrow.output, hgrow.size, fun k hk q => hgrow.block k hk (fun e => q e.symm)⟩;exact ⟨la, lc, w3, hrun, (r.hi (Hi.of_below bA)).add (hl.hi (Hi.of_below bA)) hlo hv hz hown hgrow hat, (But.of_below bA).trans Bg⟩
def wneed (w : World) (b : Nat) : Nat :=
 match w.cell? ⟨b, 5, none⟩, w.cell? ⟨b, 0, none⟩, w.cell? ⟨b, 1, none⟩ with
 | some (.int _ e), some (.string s), some (.int _ c) => if e ≠ 0 then 0 else 16 * (s.size + if c = 1 ∨ c = 0 then 0 else 1)
 | _, _, _ => 0
theorem Tok.class_end (t : Tok) : (t.class = 1 ∨ t.class = 0) ↔ (t = .fin ∨ t = .none) := by cases t <;> simp [Tok.class]
theorem RAt.wneed {w : World} {b : Nat} {S : ES} (R : RAt w b S) : wneed w b = need S := by
 cases S with
 | ok σ =>
  obtain ⟨k, hr⟩ := R.box;have c0 : w.cell? ⟨b, 0, none⟩ = some (.string (str σ.rest)) := (k.cell 0).trans rfl;have c1 : w.cell? ⟨b, 1, none⟩ = some (.int .i64 σ.now.class) := (k.cell 1).trans rfl;have c5 : w.cell? ⟨b, 5, none⟩ = some (.int .i64 0) := (k.cell 5).trans rfl;unfold Go.Proofs.YtpofgnlkhkednaaGreatDoor.wneed;rw [c5, c0, c1];simp only [ne_eq, not_true_eq_false, if_false, str_size, need, mu, Tok.class_end]
 | error e =>
  obtain ⟨h0, r, lv, k⟩ := R.box;have c0 : w.cell? ⟨b, 0, none⟩ = some (.string (str r)) := (k.cell 0).trans rfl;have c1 : w.cell? ⟨b, 1, none⟩ = some (.int .i64 0) := (k.cell 1).trans rfl;have c5 : w.cell? ⟨b, 5, none⟩ = some (.int .i64 e) := (k.cell 5).trans rfl;unfold Go.Proofs.YtpofgnlkhkednaaGreatDoor.wneed;rw [c5, c0, c1];simp only [ne_eq, h0, not_false_eq_true, if_true, need]
theorem RAt.most {w : World} {b : Nat} {S : ES} (R : RAt w b S) : need S ≤ 32784 := by
 cases S with
 | ok σ =>
  have := R.box.2.1;show 16 * mu σ ≤ _;have : mu σ ≤ σ.rest.length + 1 := by unfold mu; split <;> omega
  omega
 | error e => exact Nat.zero_le _
theorem RowG.one {lo sz : Nat} {ety : TypeId} {fs : List Fld} {u : World} (hl : lieAll lo u fs) (hlo : lo ≤ u.heap.size) (hz : fs.length = sz) : RowG lo ety sz (.slice (some ⟨u.heap.size, 0, none⟩) 1 1) [fs] (u.alloc (.cells (fs.map Fld.val).toArray ety)) := by
 have bA : Below u.heap.size u (u.alloc (.cells (fs.map Fld.val).toArray ety)) := (Below.refl _ _).alloc (Nat.le_refl _) _;refine ⟨⟨by simp [flatV, hz], .inr ⟨u.heap.size, 1, (fs.map Fld.val).toArray, rfl, hlo, Blk.new u _ ety, by simp, by unfold maxLen; omega, by simp [hz], ?_⟩⟩, fun d hd => ?_, fun b hb d hd => ?_, fun d hd => ?_⟩
 ·rw [List.take_of_length_le (by simp [hz])]; simp [flatV]
 ·rw [List.mem_singleton.1 hd]; exact hl.hi (Hi.of_below bA)
 ·rw [List.mem_singleton.1 hd];have hb : u.heap.size = b := by injection hb
  exact fun f hf => Fld.lies_apart (.inr (by omega)) f (hl f hf)
 ·rw [List.mem_singleton.1 hd]; exact hz
theorem need_comma {l : Int} {S S4 S5 : ES} (hs : stands [44] S = true) (h4 : Rel (roomT l 8) S () S4) (h5 : Rel (takeT [44]) S4 () S5) : need S5 + 16 ≤ need S := by
 unfold roomT at h4
 split at h4
 ·cases S with
  | error e => cases hs
  | ok σ =>
   have := h4.get_err (e := 3) rfl;subst this;have h5 : S5 = .error 3 := h5;subst h5;have := Here.of_stands hs;have hm : mu σ = σ.rest.length + 1 := by unfold mu; rw [if_neg (by rintro (q | q); exact this.1 q; exact this.2 q)]
   show 0 + 16 ≤ 16 * mu σ;omega
 ·have : S4 = S := by
   cases S with
   | error e => exact h4
   | ok σ => exact (h4.get_ok (τ := σ) rfl).2
  subst this;exact (need_take h5).2 hs
def Fours (es : List (List Fld)) : Prop := (∀ d ∈ es, d.length = 4) ∧ es.length ≤ 2050
def ArE (b : Nat) (F : PM (List EV)) (S : ES) (w : World) (e : Ending) (w' : World) : Prop :=
 ∃ la lc es, e = .returned (.slice la es.length lc) ∧ (Fld.l la lc es).lies w.heap.size w' ∧ But (fun k => k = b) w w' ∧ ∃ S', RAt w' b S' ∧ need S' ≤ need S ∧ Rel F S (pvRows es) S' ∧ Fours es
theorem argsF_b {n : Nat} (H : ExC n) (pb b : Nat) (S : ES) (w : World) (R : RAt w b S) (kp : Blk w pb #[.pointer (some ⟨b, 0, none⟩)] 34) (hn : need S + 19 ≤ n) : Calls Tryz.prog 96 #[.pointer (some ⟨pb, 0, none⟩)] w (ExE b (exprT n 1) S w) := by
 have zb := R.lt;have bA : Below w.heap.size w (w.alloc (.cells #[.int .i64 0, .int .i64 0, .string ⟨#[]⟩, .slice none 0 0] 80)) := (Below.refl _ _).alloc (Nat.le_refl _) _;have kA := Blk.new w #[.int .i64 0, .int .i64 0, .string ⟨#[]⟩, .slice none 0 0] 80;have p0 := (kp.cell 0).trans rfl;have zp := kp.lt
 go_enter Tryz.func96, Tryz.ntmps96
 go_wp2_with fail
 refine (H 1 (by omega) (by omega) b S _ (R.below bA) (by omega)).mono ?_;rintro e w2 ⟨op, m, s, la, lc, es, rfl, hl, B2, S2, R2, hd2, h2⟩;unfold exC;have k2 := B2.blk kA (by omega);obtain ⟨z1, ⟨c0, c1, c2, c3⟩, f0, f1, f2, f3⟩ := k2.four;have hzA : w.heap.size < (w.alloc (.cells #[.int .i64 0, .int .i64 0, .string ⟨#[]⟩, .slice none 0 0] 80)).heap.size := kA.lt;have B02 := bbut (But.of_below bA) B2
 go_wp2
 exact ex_give Tryz.results96 rfl rfl k2 zb (Nat.le_refl _) hzA hl B02 R2 hd2 h2
theorem comma_b {n : Nat} (H : ∀ m, m ≤ n → ExC m) (pb b : Nat) (S : ES) (w : World) (R : RAt w b S) (kp : Blk w pb #[.pointer (some ⟨b, 0, none⟩)] 34) (hpb : pb ≠ b) (hn : need S + 20 ≤ n + 1) : Calls Tryz.prog 95 #[.pointer (some ⟨b, 0, none⟩), .func (.func 96) #[] #[.pointer (some ⟨pb, 0, none⟩)]] w (ArE b (commaT (n + 1)) S w) := by
 have zb := R.lt;have zp := kp.lt;have K0 := is_b [41] b S w R;obtain ⟨x, Hx⟩ : ∃ x, Hid (x = stands [41] S) := ⟨_, rfl⟩;rw [← Hx.out] at K0
 go_enter Tryz.func95, Tryz.ntmps95
 go_wp2_with fail
 refine K0.mono ?_;rintro e w1 ⟨rfl, B1, R1⟩
 cases x with
 | true =>
  have HR : Hid (Rel (commaT (n + 1)) S [] S) := by
   show Rel (commaT (n + 1)) S [] S;rw [commaT];exact (rel_is [41] S).bind (by rw [← Hx.out]; exact Rel.pur _ _)
  clear Hx
  go_wp2
  go_ret
  exact ⟨none, 0, [], rfl, lies_none _ _, B1, S, R1, Nat.le_refl _, HR.out, (fun d hd => by cases hd), by simp⟩
 | false =>
  have kp1 := B1.blk kp hpb
  go_wp2_with fail
  refine (argsF_b (H n (Nat.le_refl _)) pb b S w1 R1 kp1 (by omega)).mono ?_;rintro e w2 ⟨op, m, s, la, lc, es, rfl, hl, B2, S2, R2, hd2, h2⟩;unfold exC;have hd := R.most;have hzw1 := B1.size;have hzw2 := B2.size;have row : RowG w.heap.size 80 4 (.slice (some ⟨w2.heap.size, 0, none⟩) 1 1) [exF op m s la lc es] (w2.alloc (.cells #[.int .i64 op, .int .i64 m, .string (str s), .slice la es.length lc] 80)) := RowG.one (hl.mono hzw1) (by omega) rfl
  have HI : Hid (∀ y S', Rel (moreT n (pvRows [exF op m s la lc es])) S2 y S' → Rel (commaT (n + 1)) S y S') := by
   intro y S' hy;show Rel (commaT (n + 1)) S y S';rw [commaT];exact (rel_is [41] S).bind (by rw [← Hx.out]; exact h2.bind hy)
  have bE : Below w2.heap.size w2 (w2.alloc (.cells #[.int .i64 op, .int .i64 m, .string (str s), .slice la es.length lc] 80)) := (Below.refl _ _).alloc (Nat.le_refl _) _;have RE := R2.below bE;have BE := bal (bbut B1 B2) (.cells #[.int .i64 op, .int .i64 m, .string (str s), .slice la es.length lc] 80);have kpE := (B2.blk kp1 hpb).below bE (B2.blk kp1 hpb).lt;clear h2 hl R2 bE Hx kp1 kp R1 K0
  go_wp2_with fail
  generalize w2.alloc (.cells #[.int .i64 op, .int .i64 m, .string (str s), .slice la es.length lc] 80) = wE at *
  obtain ⟨es0, He0⟩ : ∃ es0, Hid (es0 = [exF op m s la lc es]) := ⟨_, rfl⟩;rw [← He0.out] at row HI;have hle0 : es0.length = 1 := by rw [He0.out]; rfl
  go_loopw [5] (fun sv wv => ∃ la lc es S1 m, sv = .slice la es.length lc ∧ RowG w.heap.size 80 4 (.slice la es.length lc) es wv ∧ But (fun k => k = b) w wv ∧ Blk wv pb #[.pointer (some ⟨b, 0, none⟩)] 34 ∧ RAt wv b S1 ∧ m ≤ n ∧ need S1 + 4 ≤ m ∧ 16 * es.length + need S1 ≤ need S + 16 ∧ 1 ≤ es.length ∧ Hid (∀ y S', Rel (moreT m (pvRows es)) S1 y S' → Rel (commaT (n + 1)) S y S')) (fun _ wv => wneed wv b)
  case atStart => exact ⟨_, _, es0, S2, n, by rw [hle0], by rw [hle0]; exact row, BE, kpE, RE, Nat.le_refl _, by omega, by rw [hle0]; omega, by omega, HI⟩
  case round =>
   obtain ⟨la1, lc1, es1, S1, m1, rfl, row1, Bk, kpk, Rk, hm1, hf1, hle1, hne1, HK⟩ := hrel;have K1 := is_b [44] b S1 wr Rk;obtain ⟨x, Hx⟩ : ∃ x, Hid (x = stands [44] S1) := ⟨_, rfl⟩;rw [← Hx.out] at K1;obtain ⟨m2, hm2⟩ : ∃ m2, m1 = m2 + 1 := ⟨m1 - 1, by omega⟩;have HM : Hid (m1 = m2 + 1) := hm2
   go_wp2_with fail
   refine K1.mono ?_;rintro e w3 ⟨rfl, B3, R3⟩
   cases x with
   | false =>
    have HR : Hid (Rel (commaT (n + 1)) S (pvRows es1) S1) := by
     refine HK.out _ _ ?_;rw [HM.out, moreT];exact (rel_is [44] S1).bind (by rw [← Hx.out]; exact Rel.pur _ _)
    have row3 := row1.hi (Hi.of_but B3 (fun k q => by omega));obtain ⟨la2, lc2, e2, lie2⟩ := row3.fld;have e2 : Value.slice la1 es1.length lc1 = .slice la2 es1.length lc2 := e2;injection e2 with e3 _ e4
    subst e3;subst e4
    have HD : Hid (need S1 ≤ need S) := by
     show _ ≤ _;omega
    have HB : Hid (But (fun k => k = b) w w3) := bbut Bk B3;have hmR := R.most;have H4 : Hid (Fours es1) := ⟨row3.len, by omega⟩;clear HK HM Hx hm2 row1 row3 hmR
    go_wp2
    go_ret
    exact ⟨la1, lc1, es1, rfl, lie2, HB.out, S1, R3, HD.out, HR.out, H4.out⟩
   | true =>
    have hs1 : stands [44] S1 = true := Hx.out.symm
    go_wp2_with fail
    refine (room_u es1.length 8 b S1 w3 R3).mono ?_;rintro e w4 ⟨rfl, B4, S4, R4, h4⟩
    go_wp2_with fail
    refine (take_u [44] b S4 w4 R4).mono ?_;rintro e w5 ⟨rfl, B5, S5, R5, h5⟩;have hd5 := need_comma hs1 h4 h5;have kp5 := B5.blk (B4.blk (B3.blk kpk hpb) hpb) hpb;have B05 := bbut (bbut (bbut Bk B3) B4) B5;have row5 := ((row1.hi (Hi.of_but B3 (fun k q => by omega))).hi (Hi.of_but B4 (fun k q => by omega))).hi (Hi.of_but B5 (fun k q => by omega))
    go_wp2_with fail
    refine (argsF_b (H m2 (by omega)) pb b S5 w5 R5 kp5 (by omega)).mono ?_;rintro e w6 ⟨op6, n6, s6, la6, lc6, es6, rfl, hl6, B6, S6, R6, hd6, h6⟩;unfold exC;have row6 := row5.hi (Hi.of_but B6 (fun k q => by omega));have hown := row5.blk;have hz5 := B05.size;have hz6 := B6.size;have hmost := R.most;obtain ⟨la7, lc7, w7, hrun, row7, B7⟩ := row_app (lty := 75) (ety := 80) (z := .agg #[.int .i64 0, .int .i64 0, .string ⟨#[]⟩, .slice none 0 0]) (sz := 4) Tryz.underlying75 (by kernel_rfl) rfl (by omega) row6 hl6 (by omega) (fun k q => (hown k q).2) rfl (by omega) hz6;have hlen7 : (es1 ++ [exF op6 n6 s6 la6 lc6 es6]).length = es1.length + 1 := by simp
    have B67 : But (fun k => k = b) w w7 := (bbut B05 B6).trans_new B7 (fun k hk q => by have := (hown k q).1; omega);have hb7 : ¬ Value.ownBlock (.slice la1 es1.length lc1) = some b := fun q => by have := (hown b q).1; omega
    have R7 : RAt w7 b S6 := by
     refine ⟨⟨Nat.le_trans R6.gl.sz B7.size, fun g hg j v hv => ?_⟩, R6.b5, ?_⟩
     ·rw [B7.cell (p := ⟨g, 0 + j, none⟩) (Nat.lt_of_lt_of_le (by show g < 9; omega) R6.gl.sz) (fun q => by have := (hown g q).1; have := R.gl.sz; omega)];exact R6.gl.tab g hg j v hv
     ·cases S6 with
      | ok σ => exact ⟨B7.blk R6.box.1 hb7, R6.box.2⟩
      | error e =>
       obtain ⟨h0, r, lv, kb⟩ := R6.box;exact ⟨h0, r, lv, B7.blk kb hb7⟩
    have kp7 := B7.blk (B6.blk kp5 hpb) (fun q => by have := (hown pb q).1; omega)
    have HK' : Hid (∀ y S', Rel (moreT m2 (pvRows (es1 ++ [exF op6 n6 s6 la6 lc6 es6]))) S6 y S' → Rel (commaT (n + 1)) S y S') := by
     intro y S' hy;refine HK.out y S' ?_;rw [HM.out, moreT];refine (rel_is [44] S1).bind ?_;rw [hs1];refine Rel.bind (F := roomT _ _) (by rw [pvRows_len]; exact h4) (h5.bind (h6.bind ?_));rw [pvRows_app] at hy;exact hy
    have HW : Hid (wneed w7 b < wneed wr b) := by
     show _ < _;rw [R7.wneed, Rk.wneed]; omega
    have HF : Hid (need S6 + 4 ≤ m2 ∧ 16 * (es1.length + 1) + need S6 ≤ need S + 16) := ⟨by omega, by omega⟩;clear HK HM Hx h4 h5 h6 row1 row5 row6 hl6 B3 B4 B5 B6 R3 R4 R5 R6 Rk K1 kp5 kpk
    go_wp2_with (at_builtin; refine wpList_append_run rfl _ _ 75 rfl _ _ _ w7 rfl rfl hrun ?_)
    exact ⟨⟨la7, lc7, es1 ++ [exF op6 n6 s6 la6 lc6 es6], S6, m2, by rw [hlen7], by rw [hlen7]; exact row7, B67, kp7, R7, by omega, HF.out.1, by rw [hlen7]; exact HF.out.2, by rw [hlen7]; omega, HK'⟩, HW.out⟩
abbrev ExL (N : Nat) : Prop := ∀ m, m < N → ExC m
theorem args_b {N : Nat} (H : ExL N) (b : Nat) (S : ES) (w : World) (R : RAt w b S) (hn : need S + 21 ≤ N) : Calls Tryz.prog 87 #[.pointer (some ⟨b, 0, none⟩)] w (ArE b (argsT N) S w) := by
 obtain ⟨n, rfl⟩ : ∃ n, N = n + 1 + 1 := ⟨N - 2, by omega⟩;have zb := R.lt;have bA : Below w.heap.size w (w.alloc (.cells #[.pointer (some ⟨b, 0, none⟩)] 34)) := (Below.refl _ _).alloc (Nat.le_refl _) _;have kA := Blk.new w #[.pointer (some ⟨b, 0, none⟩)] 34
 go_enter Tryz.func87, Tryz.ntmps87
 go_wp2_with fail
 refine (open_u [40] b S _ (R.below bA)).mono ?_;rintro e w1 ⟨rfl, B1, S1, R1, h1⟩;have k1 := B1.blk kA (by omega);have B01 := bbut (But.of_below bA) B1;have p1 := (k1.cell 0).trans rfl;have z1 := k1.lt;have hd1 := (need_open h1).1
 go_wp2_with fail
 refine (comma_b (n := n) (fun m hm => H m (by omega)) w.heap.size b S1 w1 R1 k1 (by omega) (by omega)).mono ?_;rintro e w2 ⟨la, lc, es, rfl, hl, B2, S2, R2, hd2, h2, h4s⟩;have k2 := B2.blk k1 (by omega);have B02 := bbut B01 B2;have p2 := (k2.cell 0).trans rfl;have z2 := k2.lt;clear p1 z1
 go_wp2_with fail
 refine (shut_u [41] b S2 w2 R2).mono ?_;rintro e w3 ⟨rfl, B3, S3, R3, h3⟩;have hd3 := need_shut h3
 have HR : Hid (Rel (argsT (n + 1 + 1)) S (pvRows es) S3) := by
  show Rel (argsT (n + 1 + 1)) S _ _;rw [argsT];exact h1.bind (h2.bind (h3.bind (Rel.pur _ _)))
 have hzz := B01.size;have HL : Hid ((Fld.l la lc es).lies w.heap.size w3) := Fld.lies_mono (by omega) _ (Fld.lies_hi (Hi.of_but B3 (fun k q => by omega)) _ hl);have HD : Hid (need S3 ≤ need S) := by show _ ≤ _; omega
 have HB : Hid (But (fun k => k = b) w w3) := bbut B02 B3;have H4 : Hid (Fours es) := h4s;clear h1 h2 h3 hl h4s
 go_wp2
 go_ret
 exact ⟨la, lc, es, rfl, HL.out, HB.out, S3, R3, HD.out, HR.out, H4.out⟩
theorem inner_n {N : Nat} (H : ExL N) (o c : Key) (b : Nat) (S : ES) (w : World) (R : RAt w b S) (hn : need S + 4 ≤ N) (hn2 : 20 ≤ N) : Calls Tryz.prog 86 #[.pointer (some ⟨b, 0, none⟩), .string (str o), .string (str c)] w (ExE b (innerT N o c) S w) := by
 obtain ⟨n, rfl⟩ : ∃ n, N = n + 1 := ⟨N - 1, by omega⟩;exact inner_b (H n (by omega)) o c b S w R hn hn2
theorem row_one {x b lo : Nat} {S : ES} {w u : World} {fs : List Fld} {c0 c1 c2 c3 : Value} (k : Blk u x #[c0, c1, c2, c3] 80) (hb : b < w.heap.size) (hx : w.heap.size ≤ x) (hlo : x < lo) (hll : lo ≤ u.heap.size) (hl : lieAll lo u fs) (B : But (fun k => k = b) w u) (R : RAt u b S) :
  ∀ v, v = (u.setCell ⟨x, 3, none⟩ (.slice (some ⟨u.heap.size, 0, none⟩) 1 1)).alloc (.cells (fs.map Fld.val).toArray 80) →
  Blk v x #[c0, c1, c2, .slice (some ⟨u.heap.size, 0, none⟩) 1 1] 80 ∧ (Fld.l (some ⟨u.heap.size, 0, none⟩) 1 [fs]).lies lo v ∧ But (fun k => k = b) w v ∧ RAt v b S ∧ ∀ y cs t, y ≠ x → Blk u y cs t → Blk v y cs t := by
 intro v hv;have hxu := k.lt;have hz := R.gl.sz;have hb5 := R.b5;have hzu := B.size;have k1 := k.set 3 (.slice (some ⟨u.heap.size, 0, none⟩) 1 1);have B1 := bnew (i := 3) (v := .slice (some ⟨u.heap.size, 0, none⟩) 1 1) B hx;have R1 := R.setOther (x := x) (i := 3) (v := .slice (some ⟨u.heap.size, 0, none⟩) 1 1) (by omega) (by omega);have hl1 := hl.hi ((Hi.refl _ _).set (x := x) (i := 3) (v := .slice (some ⟨u.heap.size, 0, none⟩) 1 1) hlo);have hs1 : (u.setCell ⟨x, 3, none⟩ (.slice (some ⟨u.heap.size, 0, none⟩) 1 1)).heap.size = u.heap.size := by simp
 have hoth : ∀ y cs t, y ≠ x → Blk u y cs t → Blk (u.setCell ⟨x, 3, none⟩ (.slice (some ⟨u.heap.size, 0, none⟩) 1 1)) y cs t := fun y cs t hy q => q.setOther ⟨x, 3, none⟩ hy _
 generalize u.setCell ⟨x, 3, none⟩ (.slice (some ⟨u.heap.size, 0, none⟩) 1 1) = v1 at *
 subst hv;have kR := Blk.new v1 (fs.map Fld.val).toArray 80;rw [hs1] at kR;have bE : Below v1.heap.size v1 (v1.alloc (.cells (fs.map Fld.val).toArray 80)) := (Below.refl _ _).alloc (Nat.le_refl _) _;exact ⟨k1.below bE k1.lt, one_lies kR hll (hl1.hi (Hi.of_below bE)), bal B1 _, R1.below bE, fun y cs t hy q => (hoth y cs t hy q).below bE (hoth y cs t hy q).lt⟩
theorem named_b {N : Nat} (H : ExL N) (b : Nat) (S : ES) (w : World) (R : RAt w b S) (hs : ∃ σ t, S = .ok σ ∧ σ.now = .name t) (hn : need S + 11 ≤ N) : Calls Tryz.prog 97 #[.pointer (some ⟨b, 0, none⟩)] w (ExE b (namedT N) S w) := by
 obtain ⟨n, rfl⟩ : ∃ n, N = n + 1 := ⟨N - 1, by omega⟩;have zb := R.lt;have bA : Below w.heap.size w (w.alloc (.cells #[.int .i64 0, .int .i64 0, .string ⟨#[]⟩, .slice none 0 0] 80)) := (Below.refl _ _).alloc (Nat.le_refl _) _;have kA := Blk.new w #[.int .i64 0, .int .i64 0, .string ⟨#[]⟩, .slice none 0 0] 80
 go_enter Tryz.func97, Tryz.ntmps97
 go_wp2_with fail
 refine (name_v b S _ (R.below bA)).mono ?_;rintro e w1 ⟨s, rfl, B1, S1, R1, h1⟩;have hd1 := (need_name h1).2 hs;have k1 := B1.blk kA (by omega);have B01 := bbut (But.of_below bA) B1;have bC : Below w1.heap.size w1 (w1.alloc (.cells #[.int .i64 3, .int .i64 0, .string (str s), .slice none 0 0] 80)) := (Below.refl _ _).alloc (Nat.le_refl _) _;have kC := Blk.new w1 #[.int .i64 3, .int .i64 0, .string (str s), .slice none 0 0] 80;have k1' := k1.below bC k1.lt;have hzk := k1.lt;have K2 := is_b [91] b S1 _ (R1.below bC);obtain ⟨x, Hx⟩ : ∃ x, Hid (x = stands [91] S1) := ⟨_, rfl⟩;rw [← Hx.out] at K2;have HS := show Hid (_) from hs;clear hs bA kA k1
 go_wp2_with fail
 refine K2.mono ?_;rintro e w2 ⟨rfl, B2, R2⟩;have k2 := B2.blk k1' (by omega);have kD := B2.blk kC (by omega);have B02 := bbut (bal B01 _) B2;have hz2 : w1.heap.size < w2.heap.size := kD.lt;clear K2 bC kC k1'
 cases x with
 | true =>
  obtain ⟨z2, ⟨d0, d1, d2, d3⟩, g0, g1, g2, g3⟩ := kD.four;have k3 := k2.setOther ⟨w1.heap.size, 0, none⟩ (by show w.heap.size ≠ w1.heap.size; omega) (.int .i64 4);have kE := kD.set 0 (.int .i64 4);have R3 := R2.setOther (x := w1.heap.size) (i := 0) (v := .int .i64 4) (by omega) (by have := R.gl.sz; omega);have B03 := bnew (i := 0) (v := .int .i64 4) B02 (show w.heap.size ≤ w1.heap.size by omega);have hs3 : (w2.setCell ⟨w1.heap.size, 0, none⟩ (.int .i64 4)).heap.size = w2.heap.size := by simp
  have hN : need S1 + 16 ≤ need S := hd1
  go_upto_region 4 with fail
  generalize w2.setCell ⟨w1.heap.size, 0, none⟩ (.int .i64 4) = w3 at *
  clear d0 d1 d2 d3 g0 g1 g2 g3 z2 kD k2 R2 B02
  go_wp2_with fail
  refine (inner_n (N := n) (fun m hm => H m (by omega)) [91] [93] b S1 w3 R3 (by omega) (by omega)).mono ?_;rintro e w4 ⟨op4, n4, s4, la4, lc4, es4, rfl, hl4, B4, S4, R4, hd4, h4⟩;unfold exC;have k4 := B4.blk k3 (by omega);have kF := B4.blk kE (by omega);have B04 := bbut B03 B4;have hz4 := B4.size;have row := row_one kF zb (by omega) (by omega : w1.heap.size < w3.heap.size) (by omega) hl4 B04 R4
  have HR : Hid (∀ la, Rel (namedT (n + 1)) S (pvAll (exF 4 0 s la 1 [exF op4 n4 s4 la4 lc4 es4])) S4) := by
   intro la;show Rel (namedT (n + 1)) S _ _;rw [namedT];exact h1.bind ((rel_is [91] S1).bind (by rw [← Hx.out]; exact h4.bind (Rel.pur _ _)))
  obtain ⟨z2, ⟨d0, d1, d2, d3⟩, g0, g1, g2, g3⟩ := kF.four;clear h1 h4 Hx HS
  go_upto_region 8 with fail
  obtain ⟨kG, lie5, B05, R5, oth⟩ := row ((w4.setCell ⟨w1.heap.size, 3, none⟩ (.slice (some ⟨w4.heap.size, 0, none⟩) 1 1)).alloc (.cells #[.int .i64 op4, .int .i64 n4, .string (str s4), .slice la4 es4.length lc4] 80)) rfl;have k5 := oth _ _ _ (by omega) k4;clear row oth d0 d1 d2 d3 g0 g1 g2 g3 z2 kF k4
  generalize (w4.setCell ⟨w1.heap.size, 3, none⟩ (.slice (some ⟨w4.heap.size, 0, none⟩) 1 1)).alloc (.cells #[.int .i64 op4, .int .i64 n4, .string (str s4), .slice la4 es4.length lc4] 80) = w5 at *
  obtain ⟨z2, ⟨d0, d1, d2, d3⟩, g0, g1, g2, g3⟩ := kG.four;obtain ⟨z1, ⟨c0, c1, c2, c3⟩, f0, f1, f2, f3⟩ := k5.four
  go_wp2
  exact ex_give (es := [exF op4 n4 s4 la4 lc4 es4]) Tryz.results97 rfl rfl k5 zb (Nat.le_refl _) (by omega : w.heap.size < w3.heap.size) (exF_lie (by omega) (by omega) lie5) B05 R5 (by omega) (HR.out _)
 | false =>
  have K3 := is_b [40] b S1 w2 R2;obtain ⟨y, Hy⟩ : ∃ y, Hid (y = stands [40] S1) := ⟨_, rfl⟩;rw [← Hy.out] at K3
  go_wp2_with fail
  refine K3.mono ?_;rintro e w3 ⟨rfl, B3, R3⟩;have k3 := B3.blk k2 (by omega);have kE := B3.blk kD (by omega);have B03 := bbut B02 B3;have hz3 := B3.size;clear K3 k2 kD R2 B02
  cases y with
  | true =>
   obtain ⟨z2, ⟨d0, d1, d2, d3⟩, g0, g1, g2, g3⟩ := kE.four;have k4 := k3.setOther ⟨w1.heap.size, 0, none⟩ (by show w.heap.size ≠ w1.heap.size; omega) (.int .i64 5);have kF := kE.set 0 (.int .i64 5);have R4 := R3.setOther (x := w1.heap.size) (i := 0) (v := .int .i64 5) (by omega) (by have := R.gl.sz; omega);have B04 := bnew (i := 0) (v := .int .i64 5) B03 (show w.heap.size ≤ w1.heap.size by omega);have hs4 : (w3.setCell ⟨w1.heap.size, 0, none⟩ (.int .i64 5)).heap.size = w3.heap.size := by simp
   have hN : need S1 + 16 ≤ need S := hd1
   go_upto_region 7 with fail
   generalize w3.setCell ⟨w1.heap.size, 0, none⟩ (.int .i64 5) = w4 at *
   clear d0 d1 d2 d3 g0 g1 g2 g3 z2 kE k3 R3 B03
   go_wp2_with fail
   refine (args_b (N := n) (fun m hm => H m (by omega)) b S1 w4 R4 (by omega)).mono ?_;rintro e w5 ⟨la5, lc5, es5, rfl, hl5, B5, S5, R5, hd5, h5, -⟩;have k5 := B5.blk k4 (by omega);have kG := B5.blk kF (by omega);have B05 := bbut B04 B5;have hz5 := B5.size
   have HR : Hid (Rel (namedT (n + 1)) S (pvAll (exF 5 0 s la5 lc5 es5)) S5) := by
    show Rel (namedT (n + 1)) S _ _;rw [namedT];refine h1.bind ((rel_is [91] S1).bind ?_);rw [← Hx.out, if_neg Bool.false_ne_true];refine Rel.bind (F := isT [40]) (rel_is [40] S1) ?_;rw [← Hy.out];exact Rel.bind (G := fun l => pur (exP 5 0 s l)) h5 (Rel.pur _ _)
   obtain ⟨z2, ⟨d0, d1, d2, d3⟩, g0, g1, g2, g3⟩ := kG.four;have kH := kG.set 3 (.slice la5 es5.length lc5);have k6 := k5.setOther ⟨w1.heap.size, 3, none⟩ (by show w.heap.size ≠ w1.heap.size; omega) (.slice la5 es5.length lc5);have R6 := R5.setOther (x := w1.heap.size) (i := 3) (v := .slice la5 es5.length lc5) (by omega) (by have := R.gl.sz; omega);have B06 := bnew (i := 3) (v := .slice la5 es5.length lc5) B05 (show w.heap.size ≤ w1.heap.size by omega);have hl6 := Fld.lies_hi ((Hi.refl w4.heap.size w5).set (x := w1.heap.size) (i := 3) (v := .slice la5 es5.length lc5) (by omega)) _ hl5;clear h1 h5 Hx HS Hy
   go_upto_region 8 with fail
   generalize w5.setCell ⟨w1.heap.size, 3, none⟩ (.slice la5 es5.length lc5) = w6 at *
   clear d0 d1 d2 d3 g0 g1 g2 g3 z2 kG k5;obtain ⟨z2, ⟨d0, d1, d2, d3⟩, g0, g1, g2, g3⟩ := kH.four;obtain ⟨z1, ⟨c0, c1, c2, c3⟩, f0, f1, f2, f3⟩ := k6.four
   go_wp2
   exact ex_give Tryz.results97 rfl rfl k6 zb (Nat.le_refl _) (by omega : w.heap.size < w4.heap.size) (exF_lie (by omega) (by omega) hl6) B06 R6 (by omega) HR.out
  | false =>
   have HR : Hid (Rel (namedT (n + 1)) S (pvAll (exF 3 0 s none 0 [])) S1) := by
    show Rel (namedT (n + 1)) S _ _;rw [namedT];refine h1.bind ((rel_is [91] S1).bind ?_);rw [← Hx.out, if_neg Bool.false_ne_true];refine Rel.bind (F := isT [40]) (rel_is [40] S1) ?_;rw [← Hy.out];exact Rel.pur _ _
   obtain ⟨z2, ⟨d0, d1, d2, d3⟩, g0, g1, g2, g3⟩ := kE.four;obtain ⟨z1, ⟨c0, c1, c2, c3⟩, f0, f1, f2, f3⟩ := k3.four;clear h1 Hx HS Hy
   go_wp2
   exact ex_give (es := []) Tryz.results97 rfl rfl k3 zb (Nat.le_refl _) (by omega : w.heap.size < w3.heap.size) (exF_lie (by omega) (by omega) (lies_none _ _)) B03 R3 (by omega) HR.out
end Go.Proofs.YtpofgnlkhkednaaGreatDoor
