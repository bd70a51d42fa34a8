/- The program's reader: not; lists of expressions. -/
import Derived.Test.YtgpjlocgkdlnlaaDoorM12
import Derived.Test.YtgpjlocgkdlnlaaDoorM01

namespace Go.Proofs.YtgpjlocgkdlnlaaDoor
open Go.RowKit
set_option linter.unusedVariables false
set_option linter.unusedSimpArgs false

theorem one_lies {lo g : Nat} {w : World} {fs : List Fld} {t : TypeId} (k : Blk w g (fs.map Fld.val).toArray t) (hg : lo ≤ g) (hl : lieAll lo w fs) : (Fld.l (some ⟨g, 0, none⟩) 1 [fs]).lies lo w := by
  refine ⟨by simp, by unfold maxLen; omega, .inr ⟨g, 0, rfl, hg, k.lt, ?_, trivial⟩⟩
  exact cellsLie_of fs 0 hl (fun j v hv => by rw [Nat.zero_add, k.cell]; simpa using hv)
theorem lies_none (lo : Nat) (w : World) : (Fld.l none 0 []).lies lo w := ⟨by simp, by unfold maxLen; omega, .inl rfl⟩
theorem exF_lie {lo : Nat} {w : World} {op n : Int} {s : Key} {la : Option Addr} {lc : Nat} {es : List (List Fld)} (h1 : -9223372036854775808 ≤ op ∧ op ≤ 9223372036854775807) (h2 : -9223372036854775808 ≤ n ∧ n ≤ 9223372036854775807) (h3 : (Fld.l la lc es).lies lo w) : lieAll lo w (exF op n s la lc es) := fun f hf => by
  simp only [exF, List.mem_cons, List.not_mem_nil, or_false] at hf
  rcases hf with rfl | rfl | rfl | rfl
  · exact h1
  · exact h2
  · trivial
  · exact h3
/-- A box of an expression that holds a list of one, made behind the box's writing. -/
theorem one_fin {fn : Func} {i x b lo : Nat} {A : Act} {F : PM EV} {S S' : ES} {w u : World} {op n : Int} {s : Key} {fs : List Fld} {C : Array Value} {c0 c1 c2 c3 : Value} (hres : fn.results = #[.cell i 73]) (hi : A.eval (.tmp i) = .pointer (some ⟨x, 0, none⟩)) (hd : A.defers = [])
    (hC : C = (fs.map Fld.val).toArray) (k : Blk u x #[c0, c1, c2, c3] 73) (hb : b < w.heap.size) (hx : w.heap.size ≤ x) (hlo : x < lo) (hop : -9223372036854775808 ≤ op ∧ op ≤ 9223372036854775807) (hn : -9223372036854775808 ≤ n ∧ n ≤ 9223372036854775807) (hl : lieAll lo u fs) (B : But (fun k => k = b) w u) (R : RAt u b S') (hN : need S' ≤ need S) (h : Rel F S (pvAll (exF op n s (some ⟨u.heap.size, 0, none⟩) 1 [fs])) S') :
    bodyPost Tryd.prog fn (ExE b F S w) .ret A (((((u.setCell ⟨x, 0, none⟩ (.int .i64 op)).setCell ⟨x, 1, none⟩ (.int .i64 n)).setCell ⟨x, 2, none⟩ (.string (str s))).setCell ⟨x, 3, none⟩ (.slice (some ⟨u.heap.size, 0, none⟩) 1 1)).alloc (.cells C 73)) := by
  subst hC
  have hxu := k.lt
  have hz := R.gl.sz
  have hb5 := R.b5
  have hzu := B.size
  have k1 := (((k.set 0 (.int .i64 op)).set 1 (.int .i64 n)).set 2 (.string (str s))).set 3 (.slice (some ⟨u.heap.size, 0, none⟩) 1 1)
  have B1 := bnew (i := 3) (v := .slice (some ⟨u.heap.size, 0, none⟩) 1 1) (bnew (i := 2) (v := .string (str s)) (bnew (i := 1) (v := .int .i64 n) (bnew (i := 0) (v := .int .i64 op) B hx) hx) hx) hx
  have R1 := (((R.setOther (x := x) (i := 0) (v := .int .i64 op) (by omega) (by omega)).setOther (x := x) (i := 1) (v := .int .i64 n) (by omega) (by omega)).setOther (x := x) (i := 2) (v := .string (str s)) (by omega) (by omega)).setOther (x := x) (i := 3) (v := .slice (some ⟨u.heap.size, 0, none⟩) 1 1) (by omega) (by omega)
  have hl1 := hl.hi (((((Hi.refl _ _).set (x := x) (i := 0) (v := .int .i64 op) hlo).set (x := x) (i := 1) (v := .int .i64 n) hlo).set (x := x) (i := 2) (v := .string (str s)) hlo).set (x := x) (i := 3) (v := .slice (some ⟨u.heap.size, 0, none⟩) 1 1) hlo)
  have hs1 : ((((u.setCell ⟨x, 0, none⟩ (.int .i64 op)).setCell ⟨x, 1, none⟩ (.int .i64 n)).setCell ⟨x, 2, none⟩ (.string (str s))).setCell ⟨x, 3, none⟩ (.slice (some ⟨u.heap.size, 0, none⟩) 1 1)).heap.size = u.heap.size := by simp
  generalize (((u.setCell ⟨x, 0, none⟩ (.int .i64 op)).setCell ⟨x, 1, none⟩ (.int .i64 n)).setCell ⟨x, 2, none⟩ (.string (str s))).setCell ⟨x, 3, none⟩ (.slice (some ⟨u.heap.size, 0, none⟩) 1 1) = v at *
  have kR := Blk.new v (fs.map Fld.val).toArray 73
  rw [hs1] at kR
  have bE : Below v.heap.size v (v.alloc (.cells (fs.map Fld.val).toArray 73)) := (Below.refl _ _).alloc (Nat.le_refl _) _
  have hl2 := (hl1.hi (Hi.of_below (lo := lo) bE)).mono (show w.heap.size ≤ lo by omega)
  refine ex_fin (la := some ⟨u.heap.size, 0, none⟩) (lc := 1) (es := [fs]) (s := s) (n := n) (op := op) hres hi hd (k1.below bE k1.lt) (exF_lie hop hn (one_lies kR (by omega) hl2)) (bal B1 _) (R1.below bE) hN h
/-- A level less. -/
theorem RAt.up {w : World} {b : Nat} {S : ES} (R : RAt w b S) : ∃ lv, w.cell? ⟨b, 4, none⟩ = some (.int .i64 lv) ∧ w.frozen? ⟨b, 4, none⟩ = false ∧ ∃ S', RAt (w.setCell ⟨b, 4, none⟩ (.int .i64 (wrap64 (lv - 1)))) b S' ∧ Rel upT S () S' := by
  obtain ⟨g, h5, hx⟩ := R
  cases S with
  | ok σ =>
    obtain ⟨k, hr⟩ := hx
    exact ⟨σ.lv, (k.cell 4).trans rfl, k.frozen 4, .ok { σ with lv := wrap64 (σ.lv - 1) }, rat g h5 (bset (But.refl _ _)) ⟨k.set 4 _, hr⟩, Rel.of_ok rfl⟩
  | error e0 =>
    obtain ⟨h0, r, lv, k⟩ := hx
    exact ⟨lv, (k.cell 4).trans rfl, k.frozen 4, .error e0, rat g h5 (bset (But.refl _ _)) ⟨h0, r, _, k.set 4 _⟩, rfl⟩
set_option maxRecDepth 4000 in
set_option maxHeartbeats 3200000 in
theorem not_b {n : Nat} (H : ExC n) (b : Nat) (S : ES) (w : World) (R : RAt w b S) (hs : stands kNot S = true) (hn : need S + 12 ≤ n + 1) : Calls Tryd.prog 84 #[.pointer (some ⟨b, 0, none⟩)] w (ExE b (notT (n + 1)) S w) := by
  have zb := R.lt
  have bA : Below w.heap.size w (w.alloc (.cells #[.int .i64 0, .int .i64 0, .string ⟨#[]⟩, .slice none 0 0] 73)) := (Below.refl _ _).alloc (Nat.le_refl _) _
  have kA := Blk.new w #[.int .i64 0, .int .i64 0, .string ⟨#[]⟩, .slice none 0 0] 73
  go_enter Tryd.func84, Tryd.ntmps84
  go_wp2_with fail
  refine (deeper_u b S _ (R.below bA)).mono ?_
  rintro e w1 ⟨rfl, B1, S1, R1, h1⟩
  have k1 := B1.blk kA (by omega)
  have B01 : But (fun k => k = b) w w1 := bbut (But.of_below bA) B1
  have hz1 : w.heap.size < w1.heap.size := k1.lt
  go_wp2_with fail
  refine (take_u kNot b S1 w1 R1).mono ?_
  rintro e w2 ⟨rfl, B2, S2, R2, h2⟩
  have k2 := B2.blk k1 (by omega)
  have B02 := bbut B01 B2
  have ho : Rel (openT kNot) S () S2 := (rel_is kNot S).bind (by rw [hs]; exact Rel.bind (F := deeperT) h1 h2)
  have hd2 := (need_open ho).2 hs
  have hz2 := B2.size
  go_wp2_with fail
  refine (H 3 (by omega) (by omega) b S2 w2 R2 (by omega)).mono ?_
  rintro e w3 ⟨op, m, s, la, lc, es, rfl, hl, B3, S3, R3, hd3, h3⟩
  unfold exC
  have k3 := B3.blk k2 (by omega)
  have B03 := bbut B02 B3
  have hz3 := B3.size
  have bC : Below w3.heap.size w3 (w3.alloc (.cells #[.int .i64 op, .int .i64 m, .string (str s), .slice la es.length lc] 73)) := (Below.refl _ _).alloc (Nat.le_refl _) _
  have kC := Blk.new w3 #[.int .i64 op, .int .i64 m, .string (str s), .slice la es.length lc] 73
  have k4 := k3.below bC k3.lt
  have R4 := R3.below bC
  have hl4 := hl.hi (Hi.of_below (lo := w2.heap.size) bC)
  have B04 := bal B03 (.cells #[.int .i64 op, .int .i64 m, .string (str s), .slice la es.length lc] 73)
  have hz4 : w3.heap.size < (w3.alloc (.cells #[.int .i64 op, .int .i64 m, .string (str s), .slice la es.length lc] 73)).heap.size := kC.lt
  obtain ⟨z2, ⟨d0, d1, d2, d3⟩, g0, g1, g2, g3⟩ := kC.four
  obtain ⟨lv, q4, p4, S5, R5, h5⟩ := R4.up
  obtain ⟨z1, ⟨c0, c1, c2, c3⟩, f0, f1, f2, f3⟩ := k4.four
  go_upto_region 4 with fail
  generalize w3.alloc (.cells #[.int .i64 op, .int .i64 m, .string (str s), .slice la es.length lc] 73) = w4 at *
  have hne : w.heap.size ≠ b := by omega
  have hne2 : w3.heap.size ≠ b := by omega
  have k5 := (k4.setOther ⟨b, 4, none⟩ hne (.int .i64 (wrap64 (lv - 1))))
  have kD := (kC.setOther ⟨b, 4, none⟩ hne2 (.int .i64 (wrap64 (lv - 1))))
  have hl5 := hl4.hi ((Hi.refl _ _).set (x := b) (i := 4) (v := .int .i64 (wrap64 (lv - 1))) (by omega))
  have B05 := bset (i := 4) (v := .int .i64 (wrap64 (lv - 1))) B04
  have hd5 := need_up h5
  have HR : Hid (∀ la', Rel (notT (n + 1)) S (pvAll (exF 8 0 [] la' 1 [exF op m s la lc es])) S5) := by
    intro la'
    show Rel (notT (n + 1)) S _ _
    rw [notT]
    exact h1.bind (h2.bind (h3.bind (h5.bind (Rel.pur _ _))))
  clear kC k4 R4 hl4 B04 h1 h2 h3 h5 ho d0 d1 d2 d3 g0 g1 g2 g3 c0 c1 c2 c3 f0 f1 f2 f3 z1 z2
  go_upto_region 5 with fail
  generalize w4.setCell ⟨b, 4, none⟩ (.int .i64 (wrap64 (lv - 1))) = w5 at *
  obtain ⟨z1, ⟨c0, c1, c2, c3⟩, f0, f1, f2, f3⟩ := k5.four
  obtain ⟨z2, ⟨d0, d1, d2, d3⟩, g0, g1, g2, g3⟩ := kD.four
  go_wp2
  exact one_fin Tryd.results84 rfl rfl rfl k5 zb (Nat.le_refl _) (by omega : w.heap.size < w2.heap.size) (by omega) (by omega) hl5 B05 R5 (by omega) (HR.out _)
end Go.Proofs.YtgpjlocgkdlnlaaDoor

namespace Go.Proofs.YtgpjlocgkdlnlaaDoor
open Go.RowKit
set_option linter.unusedVariables false
set_option linter.unusedSimpArgs false

theorem row_app {lo lo' sz : Nat} {lty ety : TypeId} {z v : Value} {es : List (List Fld)} {gs : List Fld} {w : World} (hu : Tryd.prog.underlying lty = some (.slice ety)) (hi : (Tryd.prog.info? ety).map (fun i => (i.zero, i.size, decide (i.bytes ≤ 1000))) = some (some z, sz, true)) (hzs : z.cells.size = sz) (h0 : 0 < sz)
    (r : RowG lo ety sz v es w) (hl : lieAll lo' w gs) (hlo : lo ≤ lo') (hv : ∀ b, v.ownBlock = some b → b < lo') (hz : gs.length = sz) (hn : es.length ≤ 1000000) (hb : lo' ≤ w.heap.size) :
    ∃ la lc w', (Builtin.append_ #[lty, lty] lty #[v, .slice (some ⟨w.heap.size, 0, none⟩) 1 1]).run Tryd.prog (w.alloc (.cells (gs.map Fld.val).toArray ety)) = .ok (.slice la (es.length + 1) lc) w' ∧ RowG lo ety sz (.slice la (es.length + 1) lc) (es ++ [gs]) w' ∧ But (fun k => v.ownBlock = some k) w w' := by
  obtain ⟨ii, ii1, ii2, ii3, ii4⟩ := info_parts3 hi
  obtain ⟨v', w3, hrun, hown, hgrow, hat⟩ := app_one w lo lty ety z sz ii.bytes hu (by rw [ii1, Option.map_some, ii2, ii3]) hzs h0 (of_decide_eq_true ii4) v es.length (flatV es) r.own hn (gs.map Fld.val).toArray (by simp [hz]) (flds_one gs) (by omega)
  obtain ⟨la, lc, hv'⟩ := slice_shape hown
  subst hv'
  have bA : Below w.heap.size w (w.alloc (.cells (gs.map Fld.val).toArray ety)) := (Below.refl _ _).alloc (Nat.le_refl _) _
  have Bg : But (fun k => v.ownBlock = some k) (w.alloc (.cells (gs.map Fld.val).toArray ety)) w3 := ⟨hgrow.os, hgrow.tape, hgrow.output, hgrow.size, fun k hk q => hgrow.block k hk (fun e => q e.symm)⟩
  exact ⟨la, lc, w3, hrun, (r.hi (Hi.of_below bA)).add (hl.hi (Hi.of_below bA)) hlo hv hz hown hgrow hat, (But.of_below bA).trans Bg⟩
/-- So much is still to be read, by what lies in memory. -/
def wneed (w : World) (b : Nat) : Nat :=
  match w.cell? ⟨b, 5, none⟩, w.cell? ⟨b, 0, none⟩, w.cell? ⟨b, 1, none⟩ with
  | some (.int _ e), some (.string s), some (.int _ c) => if e ≠ 0 then 0 else 16 * (s.size + if c = 1 ∨ c = 0 then 0 else 1)
  | _, _, _ => 0
theorem Tok.class_end (t : Tok) : (t.class = 1 ∨ t.class = 0) ↔ (t = .fin ∨ t = .none) := by cases t <;> simp [Tok.class]
theorem RAt.wneed {w : World} {b : Nat} {S : ES} (R : RAt w b S) : wneed w b = need S := by
  cases S with
  | ok σ =>
    obtain ⟨k, hr⟩ := R.box
    have c0 : w.cell? ⟨b, 0, none⟩ = some (.string (str σ.rest)) := (k.cell 0).trans rfl
    have c1 : w.cell? ⟨b, 1, none⟩ = some (.int .i64 σ.now.class) := (k.cell 1).trans rfl
    have c5 : w.cell? ⟨b, 5, none⟩ = some (.int .i64 0) := (k.cell 5).trans rfl
    unfold Go.Proofs.YtgpjlocgkdlnlaaDoor.wneed
    rw [c5, c0, c1]
    simp only [ne_eq, not_true_eq_false, if_false, str_size, need, mu, Tok.class_end]
  | error e =>
    obtain ⟨h0, r, lv, k⟩ := R.box
    have c0 : w.cell? ⟨b, 0, none⟩ = some (.string (str r)) := (k.cell 0).trans rfl
    have c1 : w.cell? ⟨b, 1, none⟩ = some (.int .i64 0) := (k.cell 1).trans rfl
    have c5 : w.cell? ⟨b, 5, none⟩ = some (.int .i64 e) := (k.cell 5).trans rfl
    unfold Go.Proofs.YtgpjlocgkdlnlaaDoor.wneed
    rw [c5, c0, c1]
    simp only [ne_eq, h0, not_false_eq_true, if_true, need]
theorem RAt.most {w : World} {b : Nat} {S : ES} (R : RAt w b S) : need S ≤ 32784 := by
  cases S with
  | ok σ =>
    have := R.box.2.1
    show 16 * mu σ ≤ _
    have : mu σ ≤ σ.rest.length + 1 := by unfold mu; split <;> omega
    omega
  | error e => exact Nat.zero_le _
theorem RowG.one {lo sz : Nat} {ety : TypeId} {fs : List Fld} {u : World} (hl : lieAll lo u fs) (hlo : lo ≤ u.heap.size) (hz : fs.length = sz) : RowG lo ety sz (.slice (some ⟨u.heap.size, 0, none⟩) 1 1) [fs] (u.alloc (.cells (fs.map Fld.val).toArray ety)) := by
  have bA : Below u.heap.size u (u.alloc (.cells (fs.map Fld.val).toArray ety)) := (Below.refl _ _).alloc (Nat.le_refl _) _
  refine ⟨⟨by simp [flatV, hz], .inr ⟨u.heap.size, 1, (fs.map Fld.val).toArray, rfl, hlo, Blk.new u _ ety, by simp, by unfold maxLen; omega, by simp [hz], ?_⟩⟩, fun d hd => ?_, fun b hb d hd => ?_, fun d hd => ?_⟩
  · rw [List.take_of_length_le (by simp [hz])]; simp [flatV]
  · rw [List.mem_singleton.1 hd]; exact hl.hi (Hi.of_below bA)
  · rw [List.mem_singleton.1 hd]
    have hb : u.heap.size = b := by injection hb
    exact fun f hf => Fld.lies_apart (.inr (by omega)) f (hl f hf)
  · rw [List.mem_singleton.1 hd]; exact hz
theorem need_comma {l : Int} {S S4 S5 : ES} (hs : stands [44] S = true) (h4 : Rel (roomT l 8) S () S4) (h5 : Rel (takeT [44]) S4 () S5) : need S5 + 16 ≤ need S := by
  unfold roomT at h4
  split at h4
  · cases S with
    | error e => cases hs
    | ok σ =>
      have := h4.get_err (e := 3) rfl
      subst this
      have h5 : S5 = .error 3 := h5
      subst h5
      have := Here.of_stands hs
      have hm : mu σ = σ.rest.length + 1 := by unfold mu; rw [if_neg (by rintro (q | q); exact this.1 q; exact this.2 q)]
      show 0 + 16 ≤ 16 * mu σ
      omega
  · have : S4 = S := by
      cases S with
      | error e => exact h4
      | ok σ => exact (h4.get_ok (τ := σ) rfl).2
    subst this
    exact (need_take h5).2 hs
/-- Expressions all, and not too many. -/
def Fours (es : List (List Fld)) : Prop := (∀ d ∈ es, d.length = 4) ∧ es.length ≤ 2050
def ArE (b : Nat) (F : PM (List EV)) (S : ES) (w : World) (e : Ending) (w' : World) : Prop :=
  ∃ la lc es, e = .returned (.slice la es.length lc) ∧ (Fld.l la lc es).lies w.heap.size w' ∧ But (fun k => k = b) w w' ∧ ∃ S', RAt w' b S' ∧ need S' ≤ need S ∧ Rel F S (pvRows es) S' ∧ Fours es
set_option maxRecDepth 4000 in
set_option maxHeartbeats 1600000 in
theorem argsF_b {n : Nat} (H : ExC n) (pb b : Nat) (S : ES) (w : World) (R : RAt w b S) (kp : Blk w pb #[.pointer (some ⟨b, 0, none⟩)] 32) (hn : need S + 19 ≤ n) : Calls Tryd.prog 88 #[.pointer (some ⟨pb, 0, none⟩)] w (ExE b (exprT n 1) S w) := by
  have zb := R.lt
  have bA : Below w.heap.size w (w.alloc (.cells #[.int .i64 0, .int .i64 0, .string ⟨#[]⟩, .slice none 0 0] 73)) := (Below.refl _ _).alloc (Nat.le_refl _) _
  have kA := Blk.new w #[.int .i64 0, .int .i64 0, .string ⟨#[]⟩, .slice none 0 0] 73
  have p0 := (kp.cell 0).trans rfl
  have zp := kp.lt
  go_enter Tryd.func88, Tryd.ntmps88
  go_wp2_with fail
  refine (H 1 (by omega) (by omega) b S _ (R.below bA) (by omega)).mono ?_
  rintro e w2 ⟨op, m, s, la, lc, es, rfl, hl, B2, S2, R2, hd2, h2⟩
  unfold exC
  have k2 := B2.blk kA (by omega)
  obtain ⟨z1, ⟨c0, c1, c2, c3⟩, f0, f1, f2, f3⟩ := k2.four
  have hzA : w.heap.size < (w.alloc (.cells #[.int .i64 0, .int .i64 0, .string ⟨#[]⟩, .slice none 0 0] 73)).heap.size := kA.lt
  have B02 := bbut (But.of_below bA) B2
  go_wp2
  exact ex_give Tryd.results88 rfl rfl k2 zb (Nat.le_refl _) hzA hl B02 R2 hd2 h2
set_option maxRecDepth 4000 in
set_option maxHeartbeats 3200000 in
theorem comma_b {n : Nat} (H : ∀ m, m ≤ n → ExC m) (pb b : Nat) (S : ES) (w : World) (R : RAt w b S) (kp : Blk w pb #[.pointer (some ⟨b, 0, none⟩)] 32) (hpb : pb ≠ b) (hn : need S + 20 ≤ n + 1) : Calls Tryd.prog 87 #[.pointer (some ⟨b, 0, none⟩), .func (.func 88) #[] #[.pointer (some ⟨pb, 0, none⟩)]] w (ArE b (commaT (n + 1)) S w) := by
  have zb := R.lt
  have zp := kp.lt
  have K0 := is_b [41] b S w R
  obtain ⟨x, Hx⟩ : ∃ x, Hid (x = stands [41] S) := ⟨_, rfl⟩
  rw [← Hx.out] at K0
  go_enter Tryd.func87, Tryd.ntmps87
  go_wp2_with fail
  refine K0.mono ?_
  rintro e w1 ⟨rfl, B1, R1⟩
  cases x with
  | true =>
    have HR : Hid (Rel (commaT (n + 1)) S [] S) := by
      show Rel (commaT (n + 1)) S [] S
      rw [commaT]
      exact (rel_is [41] S).bind (by rw [← Hx.out]; exact Rel.pur _ _)
    clear Hx
    go_wp2
    go_ret
    exact ⟨none, 0, [], rfl, lies_none _ _, B1, S, R1, Nat.le_refl _, HR.out, (fun d hd => by cases hd), by simp⟩
  | false =>
    have kp1 := B1.blk kp hpb
    go_wp2_with fail
    refine (argsF_b (H n (Nat.le_refl _)) pb b S w1 R1 kp1 (by omega)).mono ?_
    rintro e w2 ⟨op, m, s, la, lc, es, rfl, hl, B2, S2, R2, hd2, h2⟩
    unfold exC
    have hd := R.most
    have hzw1 := B1.size
    have hzw2 := B2.size
    have row : RowG w.heap.size 73 4 (.slice (some ⟨w2.heap.size, 0, none⟩) 1 1) [exF op m s la lc es] (w2.alloc (.cells #[.int .i64 op, .int .i64 m, .string (str s), .slice la es.length lc] 73)) := RowG.one (hl.mono hzw1) (by omega) rfl
    have HI : Hid (∀ y S', Rel (moreT n (pvRows [exF op m s la lc es])) S2 y S' → Rel (commaT (n + 1)) S y S') := by
      intro y S' hy
      show Rel (commaT (n + 1)) S y S'
      rw [commaT]
      exact (rel_is [41] S).bind (by rw [← Hx.out]; exact h2.bind hy)
    have bE : Below w2.heap.size w2 (w2.alloc (.cells #[.int .i64 op, .int .i64 m, .string (str s), .slice la es.length lc] 73)) := (Below.refl _ _).alloc (Nat.le_refl _) _
    have RE := R2.below bE
    have BE := bal (bbut B1 B2) (.cells #[.int .i64 op, .int .i64 m, .string (str s), .slice la es.length lc] 73)
    have kpE := (B2.blk kp1 hpb).below bE (B2.blk kp1 hpb).lt
    clear h2 hl R2 bE Hx kp1 kp R1 K0
    go_wp2_with fail
    generalize w2.alloc (.cells #[.int .i64 op, .int .i64 m, .string (str s), .slice la es.length lc] 73) = wE at *
    obtain ⟨es0, He0⟩ : ∃ es0, Hid (es0 = [exF op m s la lc es]) := ⟨_, rfl⟩
    rw [← He0.out] at row HI
    have hle0 : es0.length = 1 := by rw [He0.out]; rfl
    go_loopw [5] (fun sv wv => ∃ la lc es S1 m, sv = .slice la es.length lc ∧ RowG w.heap.size 73 4 (.slice la es.length lc) es wv ∧ But (fun k => k = b) w wv ∧ Blk wv pb #[.pointer (some ⟨b, 0, none⟩)] 32 ∧ RAt wv b S1 ∧ m ≤ n ∧ need S1 + 4 ≤ m ∧ 16 * es.length + need S1 ≤ need S + 16 ∧ 1 ≤ es.length ∧ Hid (∀ y S', Rel (moreT m (pvRows es)) S1 y S' → Rel (commaT (n + 1)) S y S')) (fun _ wv => wneed wv b)
    case atStart => exact ⟨_, _, es0, S2, n, by rw [hle0], by rw [hle0]; exact row, BE, kpE, RE, Nat.le_refl _, by omega, by rw [hle0]; omega, by omega, HI⟩
    case round =>
      obtain ⟨la1, lc1, es1, S1, m1, rfl, row1, Bk, kpk, Rk, hm1, hf1, hle1, hne1, HK⟩ := hrel
      have K1 := is_b [44] b S1 wr Rk
      obtain ⟨x, Hx⟩ : ∃ x, Hid (x = stands [44] S1) := ⟨_, rfl⟩
      rw [← Hx.out] at K1
      obtain ⟨m2, hm2⟩ : ∃ m2, m1 = m2 + 1 := ⟨m1 - 1, by omega⟩
      have HM : Hid (m1 = m2 + 1) := hm2
      go_wp2_with fail
      refine K1.mono ?_
      rintro e w3 ⟨rfl, B3, R3⟩
      cases x with
      | false =>
        have HR : Hid (Rel (commaT (n + 1)) S (pvRows es1) S1) := by
          refine HK.out _ _ ?_
          rw [HM.out, moreT]
          exact (rel_is [44] S1).bind (by rw [← Hx.out]; exact Rel.pur _ _)
        have row3 := row1.hi (Hi.of_but B3 (fun k q => by omega))
        obtain ⟨la2, lc2, e2, lie2⟩ := row3.fld
        have e2 : Value.slice la1 es1.length lc1 = .slice la2 es1.length lc2 := e2
        injection e2 with e3 _ e4
        subst e3
        subst e4
        have HD : Hid (need S1 ≤ need S) := by
          show _ ≤ _
          omega
        have HB : Hid (But (fun k => k = b) w w3) := bbut Bk B3
        have hmR := R.most
        have H4 : Hid (Fours es1) := ⟨row3.len, by omega⟩
        clear HK HM Hx hm2 row1 row3 hmR
        go_wp2
        go_ret
        exact ⟨la1, lc1, es1, rfl, lie2, HB.out, S1, R3, HD.out, HR.out, H4.out⟩
      | true =>
        have hs1 : stands [44] S1 = true := Hx.out.symm
        go_wp2_with fail
        refine (room_u es1.length 8 b S1 w3 R3).mono ?_
        rintro e w4 ⟨rfl, B4, S4, R4, h4⟩
        go_wp2_with fail
        refine (take_u [44] b S4 w4 R4).mono ?_
        rintro e w5 ⟨rfl, B5, S5, R5, h5⟩
        have hd5 := need_comma hs1 h4 h5
        have kp5 := B5.blk (B4.blk (B3.blk kpk hpb) hpb) hpb
        have B05 := bbut (bbut (bbut Bk B3) B4) B5
        have row5 := ((row1.hi (Hi.of_but B3 (fun k q => by omega))).hi (Hi.of_but B4 (fun k q => by omega))).hi (Hi.of_but B5 (fun k q => by omega))
        go_wp2_with fail
        refine (argsF_b (H m2 (by omega)) pb b S5 w5 R5 kp5 (by omega)).mono ?_
        rintro e w6 ⟨op6, n6, s6, la6, lc6, es6, rfl, hl6, B6, S6, R6, hd6, h6⟩
        unfold exC
        have row6 := row5.hi (Hi.of_but B6 (fun k q => by omega))
        have hown := row5.blk
        have hz5 := B05.size
        have hz6 := B6.size
        have hmost := R.most
        obtain ⟨la7, lc7, w7, hrun, row7, B7⟩ := row_app (lty := 68) (ety := 73) (z := .agg #[.int .i64 0, .int .i64 0, .string ⟨#[]⟩, .slice none 0 0]) (sz := 4) Tryd.underlying68 (by kernel_rfl) rfl (by omega) row6 hl6 (by omega) (fun k q => (hown k q).2) rfl (by omega) hz6
        have hlen7 : (es1 ++ [exF op6 n6 s6 la6 lc6 es6]).length = es1.length + 1 := by simp
        have B67 : But (fun k => k = b) w w7 := (bbut B05 B6).trans_new B7 (fun k hk q => by have := (hown k q).1; omega)
        have hb7 : ¬ Value.ownBlock (.slice la1 es1.length lc1) = some b := fun q => by have := (hown b q).1; omega
        have R7 : RAt w7 b S6 := by
          refine ⟨⟨Nat.le_trans R6.gl.sz B7.size, fun g hg j v hv => ?_⟩, R6.b5, ?_⟩
          · rw [B7.cell (p := ⟨g, 0 + j, none⟩) (Nat.lt_of_lt_of_le (by show g < 5; omega) R6.gl.sz) (fun q => by have := (hown g q).1; have := R.gl.sz; omega)]
            exact R6.gl.tab g hg j v hv
          · cases S6 with
            | ok σ => exact ⟨B7.blk R6.box.1 hb7, R6.box.2⟩
            | error e =>
              obtain ⟨h0, r, lv, kb⟩ := R6.box
              exact ⟨h0, r, lv, B7.blk kb hb7⟩
        have kp7 := B7.blk (B6.blk kp5 hpb) (fun q => by have := (hown pb q).1; omega)
        have HK' : Hid (∀ y S', Rel (moreT m2 (pvRows (es1 ++ [exF op6 n6 s6 la6 lc6 es6]))) S6 y S' → Rel (commaT (n + 1)) S y S') := by
          intro y S' hy
          refine HK.out y S' ?_
          rw [HM.out, moreT]
          refine (rel_is [44] S1).bind ?_
          rw [hs1]
          refine Rel.bind (F := roomT _ _) (by rw [pvRows_len]; exact h4) (h5.bind (h6.bind ?_))
          rw [pvRows_app] at hy
          exact hy
        have HW : Hid (wneed w7 b < wneed wr b) := by
          show _ < _
          rw [R7.wneed, Rk.wneed]; omega
        have HF : Hid (need S6 + 4 ≤ m2 ∧ 16 * (es1.length + 1) + need S6 ≤ need S + 16) := ⟨by omega, by omega⟩
        clear HK HM Hx h4 h5 h6 row1 row5 row6 hl6 B3 B4 B5 B6 R3 R4 R5 R6 Rk K1 kp5 kpk
        go_wp2_with (at_builtin; refine wpList_append_run rfl _ _ 68 rfl _ _ _ w7 rfl rfl hrun ?_)
        exact ⟨⟨la7, lc7, es1 ++ [exF op6 n6 s6 la6 lc6 es6], S6, m2, by rw [hlen7], by rw [hlen7]; exact row7, B67, kp7, R7, by omega, HF.out.1, by rw [hlen7]; exact HF.out.2, by rw [hlen7]; omega, HK'⟩, HW.out⟩
end Go.Proofs.YtgpjlocgkdlnlaaDoor
