import Derived.Test.YtpofgnlkhkednaaGreatDoorM13
import Derived.Test.YtpofgnlkhkednaaGreatDoorM22
import Derived.Test.YtpofgnlkhkednaaGreatDoorM15
namespace Go.Proofs.YtpofgnlkhkednaaGreatDoor
open Go.RowKit
set_option linter.unusedVariables false
set_option linter.unusedSimpArgs false
set_option maxRecDepth 20000
set_option maxHeartbeats 8000000
structure StW (k : Int) (nm al ca : Key) (ty : Int) (es : List XT) (bs ls : List ST) : Prop where
 rng : 1 ≤ k ∧ k ≤ 10
 hnm : nmIf (wantsI k).1 nm = true
 hal : nmIf (decide (k = 10)) al = true
 hca : nmIf (decide (k = 10)) ca = true
 hty : kdIf (wantsI k).2.1 ty = true
 num : (es.length : Int) = (wantsI k).2.2.1 ∨ k = 10 ∧ (wantsI k).2.2.1 < es.length
 nob : (wantsI k).2.2.2 < 2 → ls = []
 hes : XT.fms es = true
 hbs : ST.fms bs = true
 hls : ST.fms ls = true
 ok : okS k nm al ca ty (es.map XT.evs).length (ST.all bs).length (ST.all ls).length = true
theorem ST.all_len (l : List ST) : (ST.all l).length = l.length := by rw [ST.all_map, List.length_map]
theorem ST.parts {k ty : Int} {nm al ca : Key} {es : List XT} {bs ls : List ST} (h : (ST.mk k nm al ca ty es bs ls).fm = true) : StW k nm al ca ty es bs ls := by
 rw [ST.fm, Bool.and_eq_true, Bool.and_eq_true, Bool.and_eq_true] at h;obtain ⟨⟨⟨h, he⟩, hb⟩, hl⟩ := h;have ok := h;rw [fmS_ok] at ok;simp only [Bool.and_eq_true] at ok;unfold fmS at h;simp only [Bool.and_eq_true, Bool.or_eq_true, Bool.not_eq_true', Bool.and_eq_false_iff, decide_eq_true_eq, decide_eq_false_iff_not] at h;obtain ⟨⟨⟨⟨⟨⟨⟨h1, h2⟩, h3⟩, h4⟩, h5⟩, h6⟩, h7⟩, h8⟩ := h;refine ⟨h1, h2, h3, h4, h5, h6, fun q => ?_, he, hb, hl, by rw [List.length_map, ST.all_len, ST.all_len]; exact ok.1.1.1⟩;rcases h8 with z | z
 ·exact absurd q z
 ·exact List.eq_nil_of_length_eq_zero (by omega)
section
variable {k ty : Int} {nm al ca : Key} {es : List XT} {bs ls : List ST}
theorem StW.not (h : StW k nm al ca ty es bs ls) : ¬ okS k nm al ca ty (es.map XT.evs).length (ST.all bs).length (ST.all ls).length = false := by rw [h.ok]; decide
theorem StW.one (h : StW k nm al ca ty es bs ls) (q : (wantsI k).2.2.1 = 1) (q2 : k ≠ 10) : ∃ x, es = [x] ∧ x.fm = true := by
 have h1 := h.num;rw [q] at h1;obtain ⟨x, rfl⟩ := one_len (l := es) (by omega);have := h.hes;rw [XT.fms, Bool.and_eq_true] at this;exact ⟨x, rfl, this.1⟩
theorem StW.two (h : StW k nm al ca ty es bs ls) (q : (wantsI k).2.2.1 = 2) (q2 : k ≠ 10) : ∃ x y, es = [x, y] ∧ x.fm = true ∧ y.fm = true := by
 have h1 := h.num;rw [q] at h1;obtain ⟨x, y, rfl⟩ := two_len (l := es) (by omega);have := h.hes;rw [XT.fms, XT.fms, Bool.and_eq_true, Bool.and_eq_true] at this;exact ⟨x, y, rfl, this.1, this.2.1⟩
theorem StW.named (h : StW k nm al ca ty es bs ls) (q : (wantsI k).1 = true) : nmB nm = true := by
 have := h.hnm;rw [q] at this;exact this
theorem sv_1 {x : XT} (h : StW 1 nm al ca ty [x] bs ls) : (ST.mk 1 nm al ca ty [x] bs ls).evs = tkn [108, 101, 116] ++ (tkn nm ++ tkn [58] ++ tkn (kindK ty) ++ (tkn [61] ++ (x.evs ++ tkn [59]))) := by
 have hk : 1 ≤ ty ∧ ty ≤ 3 := by
  have := h.hty;exact of_decide_eq_true this
 rw [ST.evs, shS, if_neg h.not, if_pos rfl, name_fm (h.named rfl), kind_fm hk];simp only [List.map_cons, List.map_nil, List.getD_cons_zero, List.append_assoc]
theorem sv_2 {x : XT} (h : StW 2 nm al ca ty [x] bs ls) : (ST.mk 2 nm al ca ty [x] bs ls).evs = tkn nm ++ tkn [61] ++ (x.evs ++ tkn [59]) := by
 rw [ST.evs, shS, if_neg h.not, if_neg (by decide), if_pos rfl, name_fm (h.named rfl)];simp only [List.map_cons, List.map_nil, List.getD_cons_zero, List.append_assoc]
theorem sv_3 {x y : XT} (h : StW 3 nm al ca ty [x, y] bs ls) : (ST.mk 3 nm al ca ty [x, y] bs ls).evs = tkn nm ++ (innV [91] x.evs [93] ++ (tkn [61] ++ (y.evs ++ tkn [59]))) := by
 rw [ST.evs, shS, if_neg h.not, if_neg (by decide), if_neg (by decide), if_pos rfl, name_fm (h.named rfl), innV];simp only [List.map_cons, List.map_nil, List.getD_cons_zero, List.getD_cons_succ, List.append_assoc]
theorem sv_4 {x : XT} (h : StW 4 nm al ca ty [x] bs ls) : (ST.mk 4 nm al ca ty [x] bs ls).evs = tkn [105, 102] ++ (x.evs ++ (blockV (bs.map ST.evs) ++ (if ls.isEmpty then [] else tkn [101, 108, 115, 101] ++ blockV (ls.map ST.evs)))) := by
 rw [ST.evs, shS, if_neg h.not, if_neg (by decide), if_neg (by decide), if_neg (by decide), if_pos rfl];simp only [List.map_cons, List.map_nil, List.getD_cons_zero, ST.all_map, List.append_assoc, List.isEmpty_map]
theorem sv_5 {x : XT} (h : StW 5 nm al ca ty [x] bs ls) : (ST.mk 5 nm al ca ty [x] bs ls).evs = tkn [119, 104, 105, 108, 101] ++ (x.evs ++ (blockV (bs.map ST.evs) ++ (if ls.isEmpty then [] else tkn [101, 108, 115, 101] ++ blockV (ls.map ST.evs)))) := by
 have := h.nob (by decide);subst this;rw [ST.evs, shS, if_neg h.not, if_neg (by decide), if_neg (by decide), if_neg (by decide), if_neg (by decide), if_pos rfl];simp only [List.map_cons, List.map_nil, List.getD_cons_zero, ST.all_map, List.append_assoc, List.isEmpty_nil, if_true, List.append_nil]
theorem sv_8 {x y : XT} (h : StW 8 nm al ca ty [x, y] bs ls) : (ST.mk 8 nm al ca ty [x, y] bs ls).evs = tkn [112, 97, 121] ++ (x.evs ++ (tkn [44] ++ (y.evs ++ tkn [59]))) := by
 rw [ST.evs, shS, if_neg h.not, if_neg (by decide), if_neg (by decide), if_neg (by decide), if_neg (by decide), if_neg (by decide), if_neg (by decide), if_neg (by decide), if_pos rfl];simp only [List.map_cons, List.map_nil, List.getD_cons_zero, List.getD_cons_succ, List.append_assoc]
def wdS (k : Int) : Key := if k = 6 then [114, 101, 116, 117, 114, 110] else if k = 7 then [110, 101, 101, 100] else [110, 111, 116, 101]
theorem sv_one {x : XT} (h : StW k nm al ca ty [x] bs ls) (q : k = 6 ∨ k = 7 ∨ k = 9) : (ST.mk k nm al ca ty [x] bs ls).evs = tkn (wdS k) ++ (x.evs ++ tkn [59]) := by
 rcases q with rfl | rfl | rfl
 ·rw [ST.evs, shS, if_neg h.not, if_neg (by decide), if_neg (by decide), if_neg (by decide), if_neg (by decide), if_neg (by decide), if_pos rfl];rfl
 ·rw [ST.evs, shS, if_neg h.not, if_neg (by decide), if_neg (by decide), if_neg (by decide), if_neg (by decide), if_neg (by decide), if_neg (by decide), if_pos rfl];rfl
 ·rw [ST.evs, shS, if_neg h.not, if_neg (by decide), if_neg (by decide), if_neg (by decide), if_neg (by decide), if_neg (by decide), if_neg (by decide), if_neg (by decide), if_neg (by decide), if_pos rfl];rfl
theorem StW.ask (h : StW 10 nm al ca ty es bs ls) : nmB nm = true ∧ nmB al = true ∧ nmB ca = true ∧ ∃ x y z r, es = x :: y :: z :: r ∧ x.fm = true ∧ y.fm = true ∧ z.fm = true ∧ XT.fms r = true := by
 have h1 := h.num;rw [show (wantsI 10).2.2.1 = 3 from rfl] at h1;have h2 := h.hes;have h3 : nmB al = true := h.hal;have h4 : nmB ca = true := h.hca;refine ⟨h.named rfl, h3, h4, ?_⟩
 match es, h1, h2 with
 | [], h1, _ => simp at h1
 | [_], h1, _ => simp at h1
 | [_, _], h1, _ => simp at h1
 | x :: y :: z :: r, _, h2 =>
  rw [XT.fms, XT.fms, XT.fms, Bool.and_eq_true, Bool.and_eq_true, Bool.and_eq_true] at h2;exact ⟨x, y, z, r, rfl, h2.1, h2.2.1, h2.2.2.1, h2.2.2.2⟩
theorem sv_10 {x y z : XT} {r : List XT} (h : StW 10 nm al ca ty (x :: y :: z :: r) bs ls) : (ST.mk 10 nm al ca ty (x :: y :: z :: r) bs ls).evs = tkn [97, 115, 107] ++ (tkn nm ++ tkn [44] ++ tkn al ++ tkn [61] ++ (x.evs ++ (tkn [46] ++ tkn ca ++ (argsV (r.map XT.evs) ++ (tkn [118, 97, 108, 117, 101] ++ (y.evs ++ (tkn [103, 97, 115] ++ (z.evs ++ tkn [59])))))))) := by
 have q := h.ask;rw [ST.evs, shS, if_neg h.not, if_neg (by decide), if_neg (by decide), if_neg (by decide), if_neg (by decide), if_neg (by decide), if_neg (by decide), if_neg (by decide), if_neg (by decide), if_neg (by decide), name_fm q.1, name_fm q.2.1, name_fm q.2.2.1];simp only [List.map_cons, List.getD_cons_zero, List.getD_cons_succ, List.drop_succ_cons, List.drop_zero, List.append_assoc]
end
abbrev RdX (b : Nat) : ES → World → Prop := fun S w => RAt w b S
theorem rd_begin {w : World} {b : Nat} {S : ES} (R : RAt w b S) : Mm (RdX b) (fun k => k = b) w [] S w :=
 Mm.begin R (fun k q => by subst q; exact R.lt) fun s u u' hb x => by
  have h1 := R.lt;have h2 := R.gl.sz;exact x.but (T := fun k => w.heap.size ≤ k) ⟨hb.os, hb.tape, hb.output, hb.size, fun k _ q => hb.block k (by omega)⟩ fun k q => ⟨by omega, by omega⟩
theorem rv_err {S' : ES} {w : World} {b : Nat} (R : RAt w b S') : S' ≠ .error 0 := by
 intro e;subst e;exact R.box.1 rfl
theorem meth_u {f : FuncId} {vs : List Value} {F : PM Unit} (hE : enters Tryz.prog f = true) (h : CtU f vs F) (b : Nat) (S : ES) : Meth Tryz.prog (RdX b) (fun k => k = b) f (ptr b :: vs) S fun v fs S' => Rv (fun _ => F) S () S' :=
 ⟨hE, fun w R _ => (h b S w R).mono fun e w' ⟨h1, h2, S', h3, h4⟩ => ⟨_, [], S', h1, h2, h3, lie_nil _ _, Rv.of h4⟩⟩
theorem meth_v {α : Type} {f : FuncId} {vs : List Value} {enc : α → Value} {F : PM α} (hE : enters Tryz.prog f = true) (h : CtV f vs enc F) (b : Nat) (S : ES) : Meth Tryz.prog (RdX b) (fun k => k = b) f (ptr b :: vs) S fun v fs S' => ∃ x, v = enc x ∧ Rv (fun _ => F) S x S' :=
 ⟨hE, fun w R _ => (h b S w R).mono fun e w' ⟨x, h1, h2, S', h3, h4⟩ => ⟨_, [], S', h1, h2, h3, lie_nil _ _, x, rfl, Rv.of h4⟩⟩
theorem take_m (s : Key) (b : Nat) (S : ES) : Meth Tryz.prog (RdX b) (fun k => k = b) 18 [ptr b, .string (str s)] S fun v fs S' => Rv (fun _ => takeT s) S () S' := meth_u (f := 18) (by kernel_rfl) (take_u s) b S
theorem next_m (b : Nat) (S : ES) : Meth Tryz.prog (RdX b) (fun k => k = b) 7 [ptr b] S fun v fs S' => Rv (fun _ => nextT) S () S' := meth_u (f := 7) (by kernel_rfl) next_u b S
theorem wrong_m {b : Nat} {S : ES} : Meth Tryz.prog (RdX b) (fun k => k = b) 17 [ptr b] S fun v fs S' => Rv (fun _ => (wrongT : PM Unit)) S () S' := meth_u (f := 17) (by kernel_rfl) wrong_u b S
theorem open_m (s : Key) (b : Nat) (S : ES) : Meth Tryz.prog (RdX b) (fun k => k = b) 66 [ptr b, .string (str s)] S fun v fs S' => Rv (fun _ => openT s) S () S' := meth_u (f := 66) (by kernel_rfl) (open_u s) b S
theorem shut_m (s : Key) (b : Nat) (S : ES) : Meth Tryz.prog (RdX b) (fun k => k = b) 68 [ptr b, .string (str s)] S fun v fs S' => Rv (fun _ => shutT s) S () S' := meth_u (f := 68) (by kernel_rfl) (shut_u s) b S
theorem room_m (n m : Int) (b : Nat) (S : ES) : Meth Tryz.prog (RdX b) (fun k => k = b) 43 [ptr b, .int .i64 n, .int .i64 m] S fun v fs S' => Rv (fun _ => roomT n m) S () S' := meth_u (f := 43) (by kernel_rfl) (room_u n m) b S
theorem fail_m (e : Int) (he : e ≠ 0) (b : Nat) (S : ES) : Meth Tryz.prog (RdX b) (fun k => k = b) 9 [ptr b, .int .i64 e] S fun v fs S' => Rv (fun _ => (failT e : PM Unit)) S () S' := meth_u (f := 9) (by kernel_rfl) (fail_u e he) b S
theorem name_m (b : Nat) (S : ES) : Meth Tryz.prog (RdX b) (fun k => k = b) 19 [ptr b] S fun v fs S' => ∃ x : Key, v = .string (str x) ∧ Rv (fun _ => nameT) S x S' := meth_v (f := 19) (by kernel_rfl) name_v b S
theorem is_m (s : Key) (b : Nat) (S : ES) : Meth Tryz.prog (RdX b) (fun k => k = b) 42 [ptr b, .string (str s)] S fun v fs S' => v = .bool (stands s S) ∧ S = S' :=
 ⟨by kernel_rfl, fun w R _ => (is_b s b S w R).mono fun e w' ⟨h1, h2, h3⟩ => ⟨_, [], S, h1, h2, h3, lie_nil _ _, rfl, rfl⟩⟩
theorem ahead_m (s : Key) (b : Nat) (S : ES) : Meth Tryz.prog (RdX b) (fun k => k = b) 20 [ptr b, .string (str s)] S fun v fs S' => v = .bool (going s S) ∧ S = S' :=
 ⟨by kernel_rfl, fun w R _ => (ahead_b s b S w R).mono fun e w' ⟨h1, h2, h3⟩ => ⟨_, [], S, h1, h2, h3, lie_nil _ _, rfl, rfl⟩⟩
theorem stepKind_m (b : Nat) (S : ES) : Meth Tryz.prog (RdX b) (fun k => k = b) 77 [ptr b] S fun v fs S' => v = .int .i64 (pickI stepW S) ∧ S = S' :=
 ⟨by kernel_rfl, fun w R _ => (stepKind_b b S w R).mono fun e w' ⟨h1, h2, h3⟩ => ⟨_, [], S, h1, h2, h3, lie_nil _ _, rfl, rfl⟩⟩
theorem kind_m (b : Nat) (S : ES) : Meth Tryz.prog (RdX b) (fun k => k = b) 55 [ptr b] S fun v fs S' => ∃ k : Int, v = .int .i64 k ∧ (0 ≤ k ∧ k ≤ 3) ∧ Rv (fun _ => kindT) S k S' :=
 ⟨by kernel_rfl, fun w R _ => (kind_b b S w R).mono fun e w' ⟨k, h1, h2, h3, S', h4, h5⟩ => ⟨_, [], S', h2, h3, h4, lie_nil _ _, k, rfl, h1, Rv.of h5⟩⟩
theorem param_m (b : Nat) (S : ES) : Meth Tryz.prog (RdX b) (fun k => k = b) 44 [ptr b] S fun v fs S' => ∃ (s : Key) (k : Int), fs = [.s s, .i k] ∧ v = .agg (fs.map Fld.val).toArray ∧ (0 ≤ k ∧ k ≤ 3) ∧ Rv (fun _ => paramT) S (s, k) S' :=
 ⟨by kernel_rfl, fun w R _ => (param_b b S w R).mono fun e w' ⟨s, k, h1, h2, h3, S', h4, h5, h6⟩ => ⟨_, [.s s, .i k], S', h2, h3, h4, lie_cons trivial (lie_cons ⟨by omega, by omega⟩ (lie_nil _ _)), s, k, rfl, rfl, h1, Rv.of h6⟩⟩
theorem expr_m (b : Nat) (S : ES) : Meth Tryz.prog (RdX b) (fun k => k = b) 81 [ptr b, .int .i64 1] S fun v fs S' => ∃ op m s la lc es, fs = exF op m s la lc es ∧ v = .agg (fs.map Fld.val).toArray ∧ Rv (fun n => exprT n 1) S (pvAll fs) S' :=
 ⟨by kernel_rfl, fun w R _ => (expr_all 40000 1 (by omega) (by omega) b S w R (by have := R.most; omega)).mono fun e w' ⟨op, m, s, la, lc, es, h1, h2, h3, S', h4, h5, h6⟩ => ⟨_, exF op m s la lc es, S', h1, h3, h4, h2, op, m, s, la, lc, es, rfl, rfl, Rv.up (F := fun n => exprT n 1) h6 (fun n => expr_le1 n 1) (rv_err h4)⟩⟩
theorem inner_m (o c : Key) (b : Nat) (S : ES) : Meth Tryz.prog (RdX b) (fun k => k = b) 86 [ptr b, .string (str o), .string (str c)] S fun v fs S' => ∃ op m s la lc es, fs = exF op m s la lc es ∧ v = .agg (fs.map Fld.val).toArray ∧ Rv (fun n => innerT n o c) S (pvAll fs) S' :=
 ⟨by kernel_rfl, fun w R _ => (inner_n (N := 40000) (fun m _ => expr_all m) o c b S w R (by have := R.most; omega) (by omega)).mono fun e w' ⟨op, m, s, la, lc, es, h1, h2, h3, S', h4, h5, h6⟩ => ⟨_, exF op m s la lc es, S', h1, h3, h4, h2, op, m, s, la, lc, es, rfl, rfl, Rv.up (F := fun n => innerT n o c) h6 (inner_le o c) (rv_err h4)⟩⟩
theorem args_m (b : Nat) (S : ES) : Meth Tryz.prog (RdX b) (fun k => k = b) 87 [ptr b] S fun v fs S' => ∃ la lc es, fs = [.l la lc es] ∧ v = .slice la es.length lc ∧ Fours es ∧ Rv argsT S (pvRows es) S' :=
 ⟨by kernel_rfl, fun w R _ => (args_b (N := 40000) (fun m _ => expr_all m) b S w R (by have := R.most; omega)).mono fun e w' ⟨la, lc, es, h1, h2, h3, S', h4, h5, h6, h7⟩ => ⟨_, [.l la lc es], S', h1, h3, h4, lie_cons h2 (lie_nil _ _), la, lc, es, rfl, rfl, h7, Rv.up (F := argsT) h6 args_le (rv_err h4)⟩⟩
def StP (F : Nat → PM EV) (S : ES) (v : Value) (fs : List Fld) (S' : ES) : Prop := ∃ x : Sm, fs = x.flds ∧ v = .agg (fs.map Fld.val).toArray ∧ Rv F S (pvAll fs) S'
def BlP (F : Nat → PM (List EV)) (S : ES) (v : Value) (fs : List Fld) (S' : ES) : Prop := ∃ la lc es, fs = [.l la lc es] ∧ v = .slice la es.length lc ∧ Rv F S (pvRows es) S'
def lf : ES → Nat
 | .error _ => 0
 | .ok σ => need (.ok σ) + 1
theorem lf_le (S : ES) : lf S ≤ need S + 1 := by
 cases S with
 | error e => exact Nat.zero_le _
 | ok σ => exact Nat.le_refl _
theorem lf_takes {α : Type} {F : Nat → PM α} {S S' : ES} {x : α} (h : Rv F S x S') (k : ∀ n, Takes (F n)) : lf S' ≤ need S := by
 obtain ⟨n, h⟩ := h;have h := h n (Nat.le_refl _)
 cases S with
 | error e => have h : S' = .error e := h; subst h; exact Nat.zero_le _
 | ok σ =>
  rcases k n σ x S' h with ⟨e, rfl⟩ | h2
  ·exact Nat.zero_le _
  ·have := lf_le S';omega
def wl (w : World) (b : Nat) : Nat :=
 match w.cell? ⟨b, 5, none⟩ with
 | some (.int _ e) => if e ≠ 0 then 0 else wneed w b + 1
 | _ => 0
theorem RAt.wl {w : World} {b : Nat} {S : ES} (R : RAt w b S) : wl w b = lf S := by
 have hw := R.wneed
 cases S with
 | ok σ =>
  obtain ⟨k, hr⟩ := R.box;have c5 : w.cell? ⟨b, 5, none⟩ = some (.int .i64 0) := (k.cell 5).trans rfl;unfold Go.Proofs.YtpofgnlkhkednaaGreatDoor.wl;rw [c5];simp only [ne_eq, not_true_eq_false, if_false, hw, lf]
 | error e =>
  obtain ⟨h0, r, lv, k⟩ := R.box;have c5 : w.cell? ⟨b, 5, none⟩ = some (.int .i64 e) := (k.cell 5).trans rfl;unfold Go.Proofs.YtpofgnlkhkednaaGreatDoor.wl;rw [c5];simp only [ne_eq, h0, not_false_eq_true, if_true, lf]
theorem going_ok {s : Key} {S : ES} (h : going s S = true) : lf S = need S + 1 ∧ stands s S = false := by
 cases S with
 | error e => cases h
 | ok σ => exact ⟨rfl, by simpa [going, stands] using h⟩
theorem steps_end {F : Nat → PM (List EV)} {S1 Sv : ES} {l : List EV} (kl : Kn F S1 (fun n => stepsM n l) Sv) (hg : going [125] Sv = false) : Rv F S1 l Sv := by
 cases Sv with
 | error e => exact kl.err l
 | ok σ => exact ((kl.succ.step (Rv.of (rel_is [125] (.ok σ)))).ifT_true (by simpa [going, stands] using hg)).fin
theorem sw_ext {P : Program} {ops : Array Oper} {Q : Exit → Act → World → Prop} {a : Act} {w : World} {rest : List Oper} {o : Oper} {N : Nat} {L : List (Nat × Value)} (F : Fm N L a) {i : Nat} {t : TypeId} {x : Operand} {p : Addr} {v : Value} (hc : w.cell? p = some v) (h : Is o (some i) (.load t x)) (hx : opv L x = some (.pointer (some p))) (ht : cellT P t = true) (hi : Nat.blt i N = true) (K : ∀ a', Fm N ((i, v) :: L) a' → wpList P ops Q rest a' w) : wpList P ops Q (o :: rest) a w := by
 obtain ⟨d, hu, hd⟩ := cellT_out ht;refine sw_val F h.1 h.2.2 hi ?_ K;unfold execOp;rw [h.2.1];simp only [F.ev hx]
 have hagg : (isAgg t).run P w = .ok false w := by
  unfold isAgg;rw [Sem.run_bind, run_underlying hu w];cases d <;> simp_all [TypeDesc.isRow]
 simp [Instr.loadAt, Instr.sureAddr, loadVar, hagg, hc]
theorem now_name {S : ES} (h : ((nowOf S).class == 2) = true) : ∃ σ t, S = .ok σ ∧ σ.now = .name t := by
 cases S with
 | error e => cases h
 | ok σ =>
  have h : (σ.now.class == 2) = true := h
  cases hn : σ.now with
  | name t => exact ⟨σ, t, rfl, hn⟩
  | _ => rw [hn] at h; simp [Tok.class] at h
theorem now_other {S : ES} (h : ((nowOf S).class == 2) = false) (n : Nat) (σ : St) (e : S = .ok σ) : wordM n σ = stepM (n + 1) σ := by
 subst e;have h : (σ.now.class == 2) = false := h;rw [stepM]
 cases hn : σ.now with
 | name t => rw [hn] at h; simp [Tok.class] at h
 | _ => simp only [hn]
theorem wordM_succ (n : Nat) : wordM (n + 1) = bnd (pickT stepW) fun k => if k = 0 then wrongT else bnd nextT fun _ => if k = 4 then ifM n else if k = 5 then whileM n else if k = 1 then letM n else if k = 10 then askM n else if k = 8 then payM n else oneM n k := by rw [wordM]
theorem rv_here {S S1 : ES} (h : Rv (fun _ => nextT) S () S1) (hh : Here S) : need S1 + 16 ≤ need S := by
 obtain ⟨n, h⟩ := h;exact need_here (h n (Nat.le_refl _)) hh
theorem stepW_le (S : ES) : 0 ≤ pickI stepW S ∧ pickI stepW S ≤ 10 := by
 rcases pick_mem (l := stepW) (S := S) with h | ⟨p, h1, h2⟩
 ·rw [h]; omega
 ·rw [h2];have : ∀ p ∈ stepW, 0 ≤ p.1 ∧ p.1 ≤ 10 := by decide
  exact this p h1
theorem wrong_any {α : Type} {S S' : ES} {x : α} (h : Rv (fun _ => (wrongT : PM Unit)) S () S') : Rv (fun _ => (wrongT : PM α)) S x S' := by
 obtain ⟨n, h⟩ := h;have h := h n (Nat.le_refl _);refine ⟨0, fun _ _ => ?_⟩
 cases S with
 | error e => exact h
 | ok σ =>
  have := h.get_err (e := errT σ) rfl;subst this;exact Rel.of_err rfl
end Go.Proofs.YtpofgnlkhkednaaGreatDoor
