import Derived.Test.YthhpkjmhcolgfaaGreatDoorM09
import Derived.Test.YthhpkjmhcolgfaaGreatDoorSWz
namespace Go.Proofs.YthhpkjmhcolgfaaGreatDoor
open Go.RowKit
set_option linter.unusedVariables false
set_option linter.unusedSimpArgs false
set_option maxRecDepth 20000
set_option maxHeartbeats 8000000
mutual
def XT.pv : XT → EV
 | .mk op n s ar => exP op n s (XT.pvs ar)
def XT.pvs : List XT → List EV
 | [] => []
 | x :: r => x.pv :: XT.pvs r
end
theorem XT.pvs_map : ∀ l : List XT, XT.pvs l = l.map XT.pv
 | [] => rfl
 | x :: r => by rw [XT.pvs, XT.pvs_map r]; rfl
mutual
def ST.pv : ST → EV
 | .mk k nm al ca ty es bs ls => stP k nm al ca ty (es.map XT.pv) (ST.pvs bs) (ST.pvs ls)
def ST.pvs : List ST → List EV
 | [] => []
 | x :: r => x.pv :: ST.pvs r
end
theorem ST.pvs_map : ∀ l : List ST, ST.pvs l = l.map ST.pv
 | [] => rfl
 | x :: r => by rw [ST.pvs, ST.pvs_map r]; rfl
def tbV (t : Key × Int × Int) : EV := tbP t.1 t.2.1 t.2.2
def FT.pv (f : FT) : EV := fnP f.nm f.op (f.ps.map paP) f.ty (ST.pvs f.bs)
def CTr.pv (c : CTr) : EV := ctP c.nm (c.sl.map paP, c.tb.map tbV, c.fn.map FT.pv)
theorem lift_all {α : Type} {f : α → EV} : ∀ (l : List EV), (∀ e ∈ l, ∃ x : α, f x = e) → ∃ xs : List α, xs.map f = l
 | [], _ => ⟨[], rfl⟩
 | e :: l, h => by
  obtain ⟨x, hx⟩ := h e (List.mem_cons_self ..);obtain ⟨xs, hs⟩ := lift_all l fun d hd => h d (List.mem_cons_of_mem _ hd);exact ⟨x :: xs, by rw [List.map_cons, hx, hs]⟩
theorem xt_of {v : EV} (h : ShE v) : ∃ x : XT, x.pv = v := by
 induction h with
 | mk op n s es _ ih =>
  obtain ⟨xs, hs⟩ := lift_all es ih;exact ⟨.mk op n s xs, by rw [XT.pv, XT.pvs_map, hs]⟩
theorem st_of {v : EV} (h : ShS v) : ∃ x : ST, x.pv = v := by
 induction h with
 | mk k nm al ca ty es bs ls h1 _ _ i2 i3 =>
  obtain ⟨xs, hs⟩ := lift_all (f := XT.pv) es fun e he => xt_of (h1 e he);obtain ⟨ys, hy⟩ := lift_all bs i2;obtain ⟨zs, hz⟩ := lift_all ls i3;exact ⟨.mk k nm al ca ty xs ys zs, by rw [ST.pv, ST.pvs_map, ST.pvs_map, hs, hy, hz]⟩
theorem ct_of {v : EV} (h : ShC v) : ∃ c : CTr, c.pv = v := by
 obtain ⟨s, l, m, r, rfl, h1, h2, h3⟩ := h;obtain ⟨xs, hx⟩ := lift_all (f := paP) l fun e he => by obtain ⟨s, k, rfl⟩ := h1 e he; exact ⟨(s, k), rfl⟩
 obtain ⟨ys, hy⟩ := lift_all (f := tbV) m fun e he => by obtain ⟨s, k, j, rfl⟩ := h2 e he; exact ⟨(s, k, j), rfl⟩
 obtain ⟨zs, hz⟩ := lift_all (f := FT.pv) r fun e he => by
  obtain ⟨s, o, ps, k, b, rfl, q1, q2⟩ := h3 e he;obtain ⟨p, hp⟩ := lift_all (f := paP) ps fun e he => by obtain ⟨s, k, rfl⟩ := q1 e he; exact ⟨(s, k), rfl⟩
  obtain ⟨t, ht⟩ := lift_all (f := ST.pv) b fun e he => st_of (q2 e he);exact ⟨⟨s, o, p, k, t⟩, by rw [FT.pv, hp, ST.pvs_map, ht]⟩
 exact ⟨⟨s, xs, ys, zs⟩, by rw [CTr.pv, hx, hy, hz]⟩
def wtE : PEv → Nat
 | .tok s => s.length + 1
 | _ => 1
def wtV : List PEv → Nat
 | [] => 0
 | e :: r => wtE e + wtV r
theorem wtV_app : ∀ (l m : List PEv), wtV (l ++ m) = wtV l + wtV m
 | [], m => by simp [wtV]
 | e :: l, m => by
  show wtE e + wtV (l ++ m) = wtE e + wtV l + wtV m;rw [wtV_app l m]; omega
def Rm (p : PS) (n : Nat) : Prop := p.tx.length + n ≤ 1099511627776 ∧ -1099511627776 ≤ p.lv - n ∧ p.lv + n ≤ 1099511627776 ∧ -1099511627776 ≤ p.mx ∧ p.mx ≤ 1099511627776
def Fit (p : PS) (l : List PEv) : Prop := Rm p (wtV l)
theorem sayK_len (t s : Key) : (sayK t s).length ≤ t.length + (s.length + 1) := by
 unfold sayK
 split
 ·simp; omega
 ·simp only [List.length_append, List.length_cons, List.length_nil]; omega
theorem Rm.step {p : PS} {e : PEv} {n : Nat} (h : Rm p (wtE e + n)) : Rm (p.step e) n := by
 obtain ⟨h1, h2, h3, h4, h5⟩ := h
 cases e with
 | tok s =>
  have := sayK_len p.tx s;have hw : wtE (.tok s) = s.length + 1 := rfl;rw [hw] at h1 h2 h3;refine ⟨?_, ?_, ?_, h4, h5⟩
  ·show (sayK p.tx s).length + n ≤ _; omega
  ·show _ ≤ p.lv - n; omega
  ·show p.lv + n ≤ _; omega
 | up =>
  have hw : wtE .up = 1 := rfl;rw [hw] at h1 h2 h3;refine ⟨?_, ?_, ?_, ?_, ?_⟩
  ·show p.tx.length + n ≤ _; omega
  ·show _ ≤ p.lv + 1 - n; omega
  ·show p.lv + 1 + n ≤ _; omega
  ·show _ ≤ max p.mx (p.lv + 1); omega
  ·show max p.mx (p.lv + 1) ≤ _; omega
 | down =>
  have hw : wtE .down = 1 := rfl;rw [hw] at h1 h2 h3;refine ⟨?_, ?_, ?_, h4, h5⟩
  ·show p.tx.length + n ≤ _; omega
  ·show _ ≤ p.lv - 1 - n; omega
  ·show p.lv - 1 + n ≤ _; omega
 | far =>
  have hw : wtE .far = 1 := rfl;rw [hw] at h1 h2 h3;refine ⟨?_, ?_, ?_, h4, h5⟩
  ·show p.tx.length + n ≤ _; omega
  ·show _ ≤ p.lv - n; omega
  ·show p.lv + n ≤ _; omega
 | odd =>
  have hw : wtE .odd = 1 := rfl;rw [hw] at h1 h2 h3;refine ⟨?_, ?_, ?_, h4, h5⟩
  ·show p.tx.length + n ≤ _; omega
  ·show _ ≤ p.lv - n; omega
  ·show p.lv + n ≤ _; omega
theorem Rm.run : ∀ (l : List PEv) {p : PS} {n : Nat}, Rm p (wtV l + n) → Rm (p.run l) n
 | [], p, n, h => by
  have e : wtV ([] : List PEv) + n = n := Nat.zero_add n;rw [e] at h;exact h
 | e :: l, p, n, h => Rm.run l (p := p.step e) (Rm.step (by
  have : wtV (e :: l) + n = wtE e + (wtV l + n) := by show wtE e + wtV l + n = _; omega
  rw [← this]; exact h))
theorem Rm.less {p : PS} {m n : Nat} (h : Rm p n) (k : m ≤ n) : Rm p m := by
 obtain ⟨h1, h2, h3, h4, h5⟩ := h;exact ⟨by omega, by omega, by omega, h4, h5⟩
theorem Fit.l {p : PS} {a b : List PEv} (h : Fit p (a ++ b)) : Fit p a := Rm.less h (by rw [wtV_app]; omega)
theorem Fit.r {p : PS} {a b : List PEv} (h : Fit p (a ++ b)) : Fit (p.run a) b := Rm.run a (by unfold Fit at h; rw [wtV_app] at h; exact h)
def optV (s : Key) : List PEv := if s = [] then [] else tkn s
def StP (F : Nat → PM EV) (S : ES) (v : Value) (fs : List Fld) (S' : ES) : Prop := ∃ x : Sm, fs = x.flds ∧ v = .agg (fs.map Fld.val).toArray ∧ Rv F S (pvAll fs) S'
def BlP (F : Nat → PM (List EV)) (S : ES) (v : Value) (fs : List Fld) (S' : ES) : Prop := ∃ la lc es, fs = [.l la lc es] ∧ v = .slice la es.length lc ∧ Rv F S (pvRows es) S'
def lf : ES → Nat
 | .error _ => 0
 | .ok σ => need (.ok σ) + 1
theorem lf_le (S : ES) : lf S ≤ need S + 1 := by
 cases S with
 | error e => exact Nat.zero_le _
 | ok σ => exact Nat.le_refl _
theorem lf_takes {α : Type} {F : Nat → PM α} {S S' : ES} {x : α} (h : Rv F S x S') (k : ∀ n, Takes (F n)) : lf S' ≤ need S := by
 obtain ⟨n, h⟩ := h;have h := h n (Nat.le_refl _)
 cases S with
 | error e => have h : S' = .error e := h; subst h; exact Nat.zero_le _
 | ok σ =>
  rcases k n σ x S' h with ⟨e, rfl⟩ | h2
  ·exact Nat.zero_le _
  ·have := lf_le S';omega
theorem sw_ext {P : Program} {ops : Array Oper} {Q : Exit → Act → World → Prop} {a : Act} {w : World} {rest : List Oper} {o : Oper} {N : Nat} {L : List (Nat × Value)} (F : Fm N L a) {i : Nat} {t : TypeId} {x : Operand} {p : Addr} {v : Value} (hc : w.cell? p = some v) (h : Is o (some i) (.load t x)) (hx : opv L x = some (.pointer (some p))) (ht : cellT P t = true) (hi : Nat.blt i N = true) (K : ∀ a', Fm N ((i, v) :: L) a' → wpList P ops Q rest a' w) : wpList P ops Q (o :: rest) a w := by
 obtain ⟨d, hu, hd⟩ := cellT_out ht;refine sw_val F h.1 h.2.2 hi ?_ K;unfold execOp;rw [h.2.1];simp only [F.ev hx]
 have hagg : (isAgg t).run P w = .ok false w := by
  unfold isAgg;rw [Sem.run_bind, run_underlying hu w];cases d <;> simp_all [TypeDesc.isRow]
 simp [Instr.loadAt, Instr.sureAddr, loadVar, hagg, hc]
theorem wordM_succ (n : Nat) : wordM (n + 1) = bnd (pickT stepW) fun k => if k = 0 then wrongT else bnd nextT fun _ => if k = 4 then ifM n else if k = 5 then whileM n else if k = 1 then letM n else if k = 10 then askM n else if k = 8 then payM n else oneM n k := by rw [wordM]
theorem wrong_any {α : Type} {S S' : ES} {x : α} (h : Rv (fun _ => (wrongT : PM Unit)) S () S') : Rv (fun _ => (wrongT : PM α)) S x S' := by
 obtain ⟨n, h⟩ := h;have h := h n (Nat.le_refl _);refine ⟨0, fun _ _ => ?_⟩
 cases S with
 | error e => exact h
 | ok σ =>
  have := h.get_err (e := errT σ) rfl;subst this;exact Rel.of_err rfl
theorem Kn.bif_true {α β : Type} {F : Nat → PM α} {A B : Nat → PM β} {G : Nat → β → PM α} {S S1 : ES} {c : Bool} (k : Kn F S (fun n => bnd (ifT c (A n) (B n)) (G n)) S1) (h : c = true) : Kn F S (fun n => bnd (A n) (G n)) S1 := by subst h; exact k
theorem Kn.bif_false {α β : Type} {F : Nat → PM α} {A : Nat → PM β} {x : β} {G : Nat → β → PM α} {S S1 : ES} {c : Bool} (k : Kn F S (fun n => bnd (ifT c (A n) (pur x)) (G n)) S1) (h : c = false) : Kn F S (fun n => G n x) S1 := by subst h; exact k
def itemX (n : Nat) (l1 l2 l3 : Int) (c : CT) : PM CT :=
 bnd (isT kSlot) fun a => ifT a (bnd (roomT (l1 + l2) 32) fun _ => bnd (takeT kSlot) fun _ => bnd paramT fun p => bnd (takeT [59]) fun _ => pur (c.1 ++ [paP p], c.2.1, c.2.2))
  (bnd (isT kMap) fun a => ifT a (bnd (roomT (l1 + l2) 32) fun _ => bnd tableT fun t => pur (c.1, c.2.1 ++ [t], c.2.2))
   (bnd (isT kFn) fun a => ifT a (bnd (roomT l3 32) fun _ => bnd (fnM n) fun f => pur (c.1, c.2.1, c.2.2 ++ [f]))
    (bnd (isT kOpen) fun a => ifT a (bnd (roomT l3 32) fun _ => bnd (fnM n) fun f => pur (c.1, c.2.1, c.2.2 ++ [f])) wrongT)))
theorem then_norm {P : Program} {next : Act → World → Prop} {Q : Exit → Act → World → Prop} {a : Act} {w : World} (h : next a w) : Exit.then next Q .normal a w := h
theorem block_norm {id : Nat} {Q : Exit → Act → World → Prop} {a : Act} {w : World} (h : Q .normal a w) : Exit.inBlock id Q .normal a w := h
theorem itemsM_succ (c : CT) (n : Nat) : itemsM (n + 1) c = bnd (isT [125]) fun e => ifT e (pur c) (bnd (itemM n c) fun c => itemsM n c) := by rw [itemsM]
def ctF (s : Key) (a1 : Option Addr) (c1 : Nat) (e1 : List (List Fld)) (a2 : Option Addr) (c2 : Nat) (e2 : List (List Fld)) (a3 : Option Addr) (c3 : Nat) (e3 : List (List Fld)) : List Fld := [.s s, .l a1 c1 e1, .l a2 c2 e2, .l a3 c3 e3]
def zeroC : List Value := [.string ⟨#[]⟩, .slice none 0 0, .slice none 0 0, .slice none 0 0]
abbrev st0 (text : Key) : ES := .ok { rest := text, now := .none, lv := 0 }
def PaE (text : Key) (w : World) (e : Ending) (w' : World) : Prop :=
 Below w.heap.size w w' ∧ ((2048 < text.length ∧ e = .returned (.tuple #[.agg zeroC.toArray, .int .i64 3])) ∨
 (text.length ≤ 2048 ∧ ∃ (x : EV) (S' : ES), Rv parseM (st0 text) x S' ∧
  ((∃ er, er ≠ 0 ∧ S' = .error er ∧ e = .returned (.tuple #[.agg zeroC.toArray, .int .i64 er])) ∨
   (∃ σ nm a1 c1 e1 a2 c2 e2 a3 c3 e3, S' = .ok σ ∧ x = pvAll (ctF nm a1 c1 e1 a2 c2 e2 a3 c3 e3) ∧ e = .returned (.tuple #[.agg ((ctF nm a1 c1 e1 a2 c2 e2 a3 c3 e3).map Fld.val).toArray, .int .i64 0]) ∧ lieAll w.heap.size w' (ctF nm a1 c1 e1 a2 c2 e2 a3 c3 e3)))))
theorem below_but {wA w w' : World} {x : Nat} (h : Below wA.heap.size wA w) (B : But (fun k => k = x) w w') (hx : wA.heap.size ≤ x) : Below wA.heap.size wA w' :=
 h.trans (B.below h.size fun k q => by rw [q]; exact hx)
theorem big {n : Nat} (h : decide ((2048 : Int) < n) = true) : 2048 < n := by
 have := of_decide_eq_true h;omega
abbrev C4 := Value × Value × Value × Value
def tokK : Tok → Int
 | .none => 0
 | .fin => 101
 | .name _ => 110
 | .num _ => 48
 | .fixed s => if wordL.contains s then 119 else 115
def tokT : Tok → Key → Prop
 | .name s, tx => tx = s
 | .fixed s, tx => tx = s ∧ (wordL.contains s || signL.contains s) = true
 | _, _ => True
def pC (text : Key) (at_ : Nat) (kd : Int) (tx : Key) (n lv e : Int) (c : C4) : Array Value := #[.string (str text), .int .i64 at_, .int .u8 kd, .string (str tx), .int .i64 n, .int .i64 lv, .int .i64 e, c.1, c.2.1, c.2.2.1, c.2.2.2]
def PBox (text : Key) (c : C4) (w : World) (b : Nat) : ES → Prop
 | .ok σ => ∃ at_ tx, (at_ ≤ text.length ∧ text.length ≤ 2048) ∧ text.drop at_ = σ.rest ∧ Blk w b (pC text at_ (tokK σ.now) tx σ.now.n σ.lv 0 c) 48 ∧ tokT σ.now tx ∧ Sound σ ∧ σ.lv ≤ 32 ∧ (mu σ : Int) - 5000 ≤ σ.lv
 | .error e => e ≠ 0 ∧ ∃ at_ kd tx n lv, Blk w b (pC text at_ kd tx n lv e c) 48
theorem PBox.lt {text : Key} {c : C4} {w : World} {b : Nat} : ∀ {S : ES}, PBox text c w b S → b < w.heap.size
 | .ok σ, ⟨_, _, _, _, k, _⟩ => k.lt
 | .error e, ⟨_, _, _, _, _, _, k⟩ => k.lt
theorem PBox.but {text : Key} {c : C4} {w w' : World} {b : Nat} {T : Nat → Prop} (B : But T w w') (hT : ¬ T b) : ∀ {S : ES}, PBox text c w b S → PBox text c w' b S
 | .ok σ, ⟨a, t, h1, h2, k, h3⟩ => ⟨a, t, h1, h2, B.blk k hT, h3⟩
 | .error e, ⟨h, a, kd, t, n, lv, k⟩ => ⟨h, a, kd, t, n, lv, B.blk k hT⟩
abbrev PdX (text : Key) (c : C4) (b : Nat) : ES → World → Prop := fun S w => PBox text c w b S
theorem pd_begin {text : Key} {c : C4} {w : World} {b : Nat} {S : ES} (R : PBox text c w b S) : Mm (PdX text c b) (fun k => k = b) w [] S w :=
 Mm.begin R (fun k q => by subst q; exact R.lt) fun s u u' hb x => by
  have h1 := R.lt;exact x.but (T := fun k => w.heap.size ≤ k) ⟨hb.os, hb.tape, hb.output, hb.size, fun k _ q => hb.block k (by omega)⟩ (by omega)
def PRel : ES → Int → Key → Int → Int → Prop
 | .ok σ, kd, tx, n, e => kd = tokK σ.now ∧ tokT σ.now tx ∧ n = σ.now.n ∧ e = 0
 | .error er, _, _, _, e => e = er ∧ er ≠ 0
theorem PBox.cells {text : Key} {c : C4} {w : World} {b : Nat} {S : ES} (R : PBox text c w b S) : ∃ at_ kd tx n lv e, Blk w b (pC text at_ kd tx n lv e c) 48 ∧ PRel S kd tx n e := by
 cases S with
 | ok σ =>
  obtain ⟨a, t, h1, h2, k, h3, _⟩ := R;exact ⟨a, _, t, _, _, _, k, rfl, h3, rfl, rfl⟩
 | error er =>
  obtain ⟨h, a, kd, t, n, lv, k⟩ := R;exact ⟨a, kd, t, n, lv, er, k, rfl, h⟩
theorem rv_perr {text : Key} {c : C4} {S' : ES} {w : World} {b : Nat} (R : PBox text c w b S') : S' ≠ .error 0 := by
 intro e;subst e;exact R.1 rfl
theorem bad_0 (er : Int) (text : Key) (c : C4) (b at_ : Nat) (kd : Int) (tx : Key) (n lv : Int) (wO : World) (kb : Blk wO b (pC text at_ kd tx n lv 0 c) 48) : Calls Tryz.prog 44 ([ptr b, .int .i64 er] : List Value).toArray wO fun e w' => e = .returned (.tuple #[]) ∧ But (fun k => k = b) wO w' ∧ Blk w' b (pC text at_ kd tx n lv er c) 48 := by
 have hB := But.refl (fun k => k = b) wO;refine sw_fn Tryz.func44 rfl 13 Tryz.ntmps44 rfl fun A F => ?_;refine sq (rg ?_);refine mv F fun A F=>?_;refine ni F fun A F=>?_;refine fl F 6 fun A F=>?_;refine sw_ext F ((kb.cell 6).trans rfl) ⟨rfl, rfl, rfl⟩ rfl (by kernel_rfl) rfl fun A F => ?_;refine eqi F fun A F=>?_;refine en (sw_true F rfl ?_);refine rg ?_;refine mv F fun A F=>?_;refine mv F fun A F=>?_;refine ni F fun A F=>?_;refine fl F 6 fun A F=>?_;refine sw_setX1 F ⟨rfl, rfl, rfl⟩ rfl rfl kb (by kernel_rfl) rfl rfl rfl fun w B kb => ?_;replace hB := hB.trans B;refine sw_end ?_;repeat first|refine tn ?_|refine bn ?_
 exact sw_endnone F Tryz.results44 ⟨rfl, hB, kb⟩
theorem bad_1 (er e0 : Int) (he : (e0 == 0) = false) (text : Key) (c : C4) (b at_ : Nat) (kd : Int) (tx : Key) (n lv : Int) (wO : World) (kb : Blk wO b (pC text at_ kd tx n lv e0 c) 48) : Calls Tryz.prog 44 ([ptr b, .int .i64 er] : List Value).toArray wO fun e w' => e = .returned (.tuple #[]) ∧ But (fun k => k = b) wO w' ∧ Blk w' b (pC text at_ kd tx n lv e0 c) 48 := by
 have hB := But.refl (fun k => k = b) wO;refine sw_fn Tryz.func44 rfl 13 Tryz.ntmps44 rfl fun A F => ?_;refine sq (rg ?_);refine mv F fun A F=>?_;refine ni F fun A F=>?_;refine fl F 6 fun A F=>?_;refine sw_ext F ((kb.cell 6).trans rfl) ⟨rfl, rfl, rfl⟩ rfl (by kernel_rfl) rfl fun A F => ?_;refine eqi F fun A F=>?_;rw [he] at F;refine en (sw_false F rfl ?_);refine wp_skip ?_;repeat first|refine tn ?_|refine bn ?_
 exact sw_endnone F Tryz.results44 ⟨rfl, hB, kb⟩
theorem bad_m (er : Int) (her : er ≠ 0) (text : Key) (c : C4) (b : Nat) (S : ES) : Meth Tryz.prog (PdX text c b) (fun k => k = b) 44 [ptr b, .int .i64 er] S fun v fs S' => Rv (fun _ => (failT er : PM Unit)) S () S' := by
 refine ⟨by kernel_rfl, fun w R _ => ?_⟩
 cases S with
 | ok σ =>
  obtain ⟨a, t, h1, h2, k, h3⟩ := R;refine (bad_0 er text c b _ _ _ _ _ w k).mono ?_;rintro e w' ⟨rfl, hB, k'⟩;exact ⟨_, [], .error er, rfl, hB, ⟨her, _, _, _, _, _, k'⟩, lie_nil _ _, Rv.of (Rel.of_err rfl)⟩
 | error e0 =>
  obtain ⟨h, a, kd, t, n, lv, k⟩ := R;refine (bad_1 er e0 (by simpa using h) text c b _ _ _ _ _ w k).mono ?_;rintro e w' ⟨rfl, hB, k'⟩;exact ⟨_, [], .error e0, rfl, hB, ⟨h, _, _, _, _, _, k'⟩, lie_nil _ _, Rv.of rfl⟩
theorem is_0 (s : Key) (text : Key) (c : C4) (b at_ : Nat) (tx : Key) (n lv : Int) (wO : World) (kb : Blk wO b (pC text at_ 0 tx n lv 0 c) 48) : Calls Tryz.prog 18 ([ptr b, .string (str s)] : List Value).toArray wO fun e w' => e = .returned (.bool (false)) ∧ But (fun k => k = b) wO w' ∧ Blk w' b (pC text at_ 0 tx n lv 0 c) 48 := by
 have hB := But.refl (fun k => k = b) wO;refine sw_fn Tryz.func18 rfl 35 Tryz.ntmps18 rfl fun A F => ?_;refine sq (rg ?_);refine as1 F fun A F=>?_;refine en (sq (rg ?_));refine mv F fun A F=>?_;refine ni F fun A F=>?_;refine fl F 6 fun A F=>?_;refine sw_ext F ((kb.cell 6).trans rfl) ⟨rfl, rfl, rfl⟩ rfl (by kernel_rfl) rfl fun A F => ?_;refine eqi F fun A F=>?_;refine mv F fun A F=>?_;refine on' F 5 ?_;refine mv F fun A F=>?_;refine on' F 5 ?_;refine ni F fun A F=>?_;refine on' F 5 ?_;refine fl F 2 fun A F=>?_;refine on' F 5 ?_;refine fl F 0 fun A F=>?_;refine on' F 5 ?_;refine sw_ext F ((kb.cell 2).trans rfl) ⟨rfl, rfl, rfl⟩ rfl (by kernel_rfl) rfl fun A F => ?_;refine on' F 5 ?_;refine eqi F fun A F=>?_;refine on' F 5 ?_;refine mv F fun A F=>?_;refine on' F 12 ?_;refine mv F fun A F=>?_;refine on' F 12 ?_;refine ni F fun A F=>?_;refine on' F 12 ?_;refine fl F 2 fun A F=>?_;refine on' F 12 ?_;refine fl F 0 fun A F=>?_;refine on' F 12 ?_;refine sw_ext F ((kb.cell 2).trans rfl) ⟨rfl, rfl, rfl⟩ rfl (by kernel_rfl) rfl fun A F => ?_;refine on' F 12 ?_;refine eqi F fun A F=>?_;refine on' F 5 ?_;refine pkF F fun A F=>?_;refine pkT F fun A F=>?_;refine mv F fun A F=>?_;refine off4 F 21 21 21 21 fun A F=>?_;refine off3 F 21 21 21 fun A F=>?_;refine pkF F fun A F=>?_;refine as1 F fun A F=>?_;refine en (wp_ret ?_);repeat first|refine tr ?_|refine br ?_
 exact sw_rettmp F Tryz.results18 rfl ⟨rfl, hB, kb⟩
theorem is_101 (s : Key) (text : Key) (c : C4) (b at_ : Nat) (tx : Key) (n lv : Int) (wO : World) (kb : Blk wO b (pC text at_ 101 tx n lv 0 c) 48) : Calls Tryz.prog 18 ([ptr b, .string (str s)] : List Value).toArray wO fun e w' => e = .returned (.bool (false)) ∧ But (fun k => k = b) wO w' ∧ Blk w' b (pC text at_ 101 tx n lv 0 c) 48 := by
 have hB := But.refl (fun k => k = b) wO;refine sw_fn Tryz.func18 rfl 35 Tryz.ntmps18 rfl fun A F => ?_;refine sq (rg ?_);refine as1 F fun A F=>?_;refine en (sq (rg ?_));refine mv F fun A F=>?_;refine ni F fun A F=>?_;refine fl F 6 fun A F=>?_;refine sw_ext F ((kb.cell 6).trans rfl) ⟨rfl, rfl, rfl⟩ rfl (by kernel_rfl) rfl fun A F => ?_;refine eqi F fun A F=>?_;refine mv F fun A F=>?_;refine on' F 5 ?_;refine mv F fun A F=>?_;refine on' F 5 ?_;refine ni F fun A F=>?_;refine on' F 5 ?_;refine fl F 2 fun A F=>?_;refine on' F 5 ?_;refine fl F 0 fun A F=>?_;refine on' F 5 ?_;refine sw_ext F ((kb.cell 2).trans rfl) ⟨rfl, rfl, rfl⟩ rfl (by kernel_rfl) rfl fun A F => ?_;refine on' F 5 ?_;refine eqi F fun A F=>?_;refine on' F 5 ?_;refine mv F fun A F=>?_;refine on' F 12 ?_;refine mv F fun A F=>?_;refine on' F 12 ?_;refine ni F fun A F=>?_;refine on' F 12 ?_;refine fl F 2 fun A F=>?_;refine on' F 12 ?_;refine fl F 0 fun A F=>?_;refine on' F 12 ?_;refine sw_ext F ((kb.cell 2).trans rfl) ⟨rfl, rfl, rfl⟩ rfl (by kernel_rfl) rfl fun A F => ?_;refine on' F 12 ?_;refine eqi F fun A F=>?_;refine on' F 5 ?_;refine pkF F fun A F=>?_;refine pkT F fun A F=>?_;refine mv F fun A F=>?_;refine off4 F 21 21 21 21 fun A F=>?_;refine off3 F 21 21 21 fun A F=>?_;refine pkF F fun A F=>?_;refine as1 F fun A F=>?_;refine en (wp_ret ?_);repeat first|refine tr ?_|refine br ?_
 exact sw_rettmp F Tryz.results18 rfl ⟨rfl, hB, kb⟩
theorem is_110 (s : Key) (text : Key) (c : C4) (b at_ : Nat) (tx : Key) (n lv : Int) (wO : World) (kb : Blk wO b (pC text at_ 110 tx n lv 0 c) 48) : Calls Tryz.prog 18 ([ptr b, .string (str s)] : List Value).toArray wO fun e w' => e = .returned (.bool (false)) ∧ But (fun k => k = b) wO w' ∧ Blk w' b (pC text at_ 110 tx n lv 0 c) 48 := by
 have hB := But.refl (fun k => k = b) wO;refine sw_fn Tryz.func18 rfl 35 Tryz.ntmps18 rfl fun A F => ?_;refine sq (rg ?_);refine as1 F fun A F=>?_;refine en (sq (rg ?_));refine mv F fun A F=>?_;refine ni F fun A F=>?_;refine fl F 6 fun A F=>?_;refine sw_ext F ((kb.cell 6).trans rfl) ⟨rfl, rfl, rfl⟩ rfl (by kernel_rfl) rfl fun A F => ?_;refine eqi F fun A F=>?_;refine mv F fun A F=>?_;refine on' F 5 ?_;refine mv F fun A F=>?_;refine on' F 5 ?_;refine ni F fun A F=>?_;refine on' F 5 ?_;refine fl F 2 fun A F=>?_;refine on' F 5 ?_;refine fl F 0 fun A F=>?_;refine on' F 5 ?_;refine sw_ext F ((kb.cell 2).trans rfl) ⟨rfl, rfl, rfl⟩ rfl (by kernel_rfl) rfl fun A F => ?_;refine on' F 5 ?_;refine eqi F fun A F=>?_;refine on' F 5 ?_;refine mv F fun A F=>?_;refine on' F 12 ?_;refine mv F fun A F=>?_;refine on' F 12 ?_;refine ni F fun A F=>?_;refine on' F 12 ?_;refine fl F 2 fun A F=>?_;refine on' F 12 ?_;refine fl F 0 fun A F=>?_;refine on' F 12 ?_;refine sw_ext F ((kb.cell 2).trans rfl) ⟨rfl, rfl, rfl⟩ rfl (by kernel_rfl) rfl fun A F => ?_;refine on' F 12 ?_;refine eqi F fun A F=>?_;refine on' F 5 ?_;refine pkF F fun A F=>?_;refine pkT F fun A F=>?_;refine mv F fun A F=>?_;refine off4 F 21 21 21 21 fun A F=>?_;refine off3 F 21 21 21 fun A F=>?_;refine pkF F fun A F=>?_;refine as1 F fun A F=>?_;refine en (wp_ret ?_);repeat first|refine tr ?_|refine br ?_
 exact sw_rettmp F Tryz.results18 rfl ⟨rfl, hB, kb⟩
theorem is_48 (s : Key) (text : Key) (c : C4) (b at_ : Nat) (tx : Key) (n lv : Int) (wO : World) (kb : Blk wO b (pC text at_ 48 tx n lv 0 c) 48) : Calls Tryz.prog 18 ([ptr b, .string (str s)] : List Value).toArray wO fun e w' => e = .returned (.bool (false)) ∧ But (fun k => k = b) wO w' ∧ Blk w' b (pC text at_ 48 tx n lv 0 c) 48 := by
 have hB := But.refl (fun k => k = b) wO;refine sw_fn Tryz.func18 rfl 35 Tryz.ntmps18 rfl fun A F => ?_;refine sq (rg ?_);refine as1 F fun A F=>?_;refine en (sq (rg ?_));refine mv F fun A F=>?_;refine ni F fun A F=>?_;refine fl F 6 fun A F=>?_;refine sw_ext F ((kb.cell 6).trans rfl) ⟨rfl, rfl, rfl⟩ rfl (by kernel_rfl) rfl fun A F => ?_;refine eqi F fun A F=>?_;refine mv F fun A F=>?_;refine on' F 5 ?_;refine mv F fun A F=>?_;refine on' F 5 ?_;refine ni F fun A F=>?_;refine on' F 5 ?_;refine fl F 2 fun A F=>?_;refine on' F 5 ?_;refine fl F 0 fun A F=>?_;refine on' F 5 ?_;refine sw_ext F ((kb.cell 2).trans rfl) ⟨rfl, rfl, rfl⟩ rfl (by kernel_rfl) rfl fun A F => ?_;refine on' F 5 ?_;refine eqi F fun A F=>?_;refine on' F 5 ?_;refine mv F fun A F=>?_;refine on' F 12 ?_;refine mv F fun A F=>?_;refine on' F 12 ?_;refine ni F fun A F=>?_;refine on' F 12 ?_;refine fl F 2 fun A F=>?_;refine on' F 12 ?_;refine fl F 0 fun A F=>?_;refine on' F 12 ?_;refine sw_ext F ((kb.cell 2).trans rfl) ⟨rfl, rfl, rfl⟩ rfl (by kernel_rfl) rfl fun A F => ?_;refine on' F 12 ?_;refine eqi F fun A F=>?_;refine on' F 5 ?_;refine pkF F fun A F=>?_;refine pkT F fun A F=>?_;refine mv F fun A F=>?_;refine off4 F 21 21 21 21 fun A F=>?_;refine off3 F 21 21 21 fun A F=>?_;refine pkF F fun A F=>?_;refine as1 F fun A F=>?_;refine en (wp_ret ?_);repeat first|refine tr ?_|refine br ?_
 exact sw_rettmp F Tryz.results18 rfl ⟨rfl, hB, kb⟩
theorem is_119 (s : Key) (text : Key) (c : C4) (b at_ : Nat) (tx : Key) (n lv : Int) (wO : World) (kb : Blk wO b (pC text at_ 119 tx n lv 0 c) 48) : Calls Tryz.prog 18 ([ptr b, .string (str s)] : List Value).toArray wO fun e w' => e = .returned (.bool (tx == s)) ∧ But (fun k => k = b) wO w' ∧ Blk w' b (pC text at_ 119 tx n lv 0 c) 48 := by
 have hB := But.refl (fun k => k = b) wO;refine sw_fn Tryz.func18 rfl 35 Tryz.ntmps18 rfl fun A F => ?_;refine sq (rg ?_);refine as1 F fun A F=>?_;refine en (sq (rg ?_));refine mv F fun A F=>?_;refine ni F fun A F=>?_;refine fl F 6 fun A F=>?_;refine sw_ext F ((kb.cell 6).trans rfl) ⟨rfl, rfl, rfl⟩ rfl (by kernel_rfl) rfl fun A F => ?_;refine eqi F fun A F=>?_;refine mv F fun A F=>?_;refine on' F 5 ?_;refine mv F fun A F=>?_;refine on' F 5 ?_;refine ni F fun A F=>?_;refine on' F 5 ?_;refine fl F 2 fun A F=>?_;refine on' F 5 ?_;refine fl F 0 fun A F=>?_;refine on' F 5 ?_;refine sw_ext F ((kb.cell 2).trans rfl) ⟨rfl, rfl, rfl⟩ rfl (by kernel_rfl) rfl fun A F => ?_;refine on' F 5 ?_;refine eqi F fun A F=>?_;refine on' F 5 ?_;refine mv F fun A F=>?_;refine on' F 12 ?_;refine mv F fun A F=>?_;refine on' F 12 ?_;refine ni F fun A F=>?_;refine on' F 12 ?_;refine fl F 2 fun A F=>?_;refine on' F 12 ?_;refine fl F 0 fun A F=>?_;refine on' F 12 ?_;refine sw_ext F ((kb.cell 2).trans rfl) ⟨rfl, rfl, rfl⟩ rfl (by kernel_rfl) rfl fun A F => ?_;refine on' F 12 ?_;refine eqi F fun A F=>?_;refine on' F 5 ?_;refine pkF F fun A F=>?_;refine pkT F fun A F=>?_;refine mv F fun A F=>?_;refine on' F 21 ?_;refine mv F fun A F=>?_;refine on' F 21 ?_;refine ni F fun A F=>?_;refine on' F 21 ?_;refine fl F 2 fun A F=>?_;refine on' F 21 ?_;refine fl F 1 fun A F=>?_;refine on' F 21 ?_;refine sw_ext F ((kb.cell 3).trans rfl) ⟨rfl, rfl, rfl⟩ rfl (by kernel_rfl) rfl fun A F => ?_;refine on' F 21 ?_;refine mv F fun A F=>?_;refine on' F 21 ?_;refine sw_seq2 F ⟨rfl, rfl, rfl⟩ rfl rfl rfl fun A F => ?_;refine pkT F fun A F=>?_;refine as1 F fun A F=>?_;refine en (wp_ret ?_);repeat first|refine tr ?_|refine br ?_
 exact sw_rettmp F Tryz.results18 rfl ⟨rfl, hB, kb⟩
theorem is_115 (s : Key) (text : Key) (c : C4) (b at_ : Nat) (tx : Key) (n lv : Int) (wO : World) (kb : Blk wO b (pC text at_ 115 tx n lv 0 c) 48) : Calls Tryz.prog 18 ([ptr b, .string (str s)] : List Value).toArray wO fun e w' => e = .returned (.bool (tx == s)) ∧ But (fun k => k = b) wO w' ∧ Blk w' b (pC text at_ 115 tx n lv 0 c) 48 := by
 have hB := But.refl (fun k => k = b) wO;refine sw_fn Tryz.func18 rfl 35 Tryz.ntmps18 rfl fun A F => ?_;refine sq (rg ?_);refine as1 F fun A F=>?_;refine en (sq (rg ?_));refine mv F fun A F=>?_;refine ni F fun A F=>?_;refine fl F 6 fun A F=>?_;refine sw_ext F ((kb.cell 6).trans rfl) ⟨rfl, rfl, rfl⟩ rfl (by kernel_rfl) rfl fun A F => ?_;refine eqi F fun A F=>?_;refine mv F fun A F=>?_;refine on' F 5 ?_;refine mv F fun A F=>?_;refine on' F 5 ?_;refine ni F fun A F=>?_;refine on' F 5 ?_;refine fl F 2 fun A F=>?_;refine on' F 5 ?_;refine fl F 0 fun A F=>?_;refine on' F 5 ?_;refine sw_ext F ((kb.cell 2).trans rfl) ⟨rfl, rfl, rfl⟩ rfl (by kernel_rfl) rfl fun A F => ?_;refine on' F 5 ?_;refine eqi F fun A F=>?_;refine on' F 5 ?_;refine mv F fun A F=>?_;refine off4 F 12 12 12 12 fun A F=>?_;refine off2 F 12 12 fun A F=>?_;refine on' F 5 ?_;refine pkT F fun A F=>?_;refine pkT F fun A F=>?_;refine mv F fun A F=>?_;refine on' F 21 ?_;refine mv F fun A F=>?_;refine on' F 21 ?_;refine ni F fun A F=>?_;refine on' F 21 ?_;refine fl F 2 fun A F=>?_;refine on' F 21 ?_;refine fl F 1 fun A F=>?_;refine on' F 21 ?_;refine sw_ext F ((kb.cell 3).trans rfl) ⟨rfl, rfl, rfl⟩ rfl (by kernel_rfl) rfl fun A F => ?_;refine on' F 21 ?_;refine mv F fun A F=>?_;refine on' F 21 ?_;refine sw_seq2 F ⟨rfl, rfl, rfl⟩ rfl rfl rfl fun A F => ?_;refine pkT F fun A F=>?_;refine as1 F fun A F=>?_;refine en (wp_ret ?_);repeat first|refine tr ?_|refine br ?_
 exact sw_rettmp F Tryz.results18 rfl ⟨rfl, hB, kb⟩
theorem is_e (e0 : Int) (he : (e0 == 0) = false) (s : Key) (text : Key) (c : C4) (b at_ : Nat) (kd : Int) (tx : Key) (n lv : Int) (wO : World) (kb : Blk wO b (pC text at_ kd tx n lv e0 c) 48) : Calls Tryz.prog 18 ([ptr b, .string (str s)] : List Value).toArray wO fun e w' => e = .returned (.bool (false)) ∧ But (fun k => k = b) wO w' ∧ Blk w' b (pC text at_ kd tx n lv e0 c) 48 := by
 have hB := But.refl (fun k => k = b) wO;refine sw_fn Tryz.func18 rfl 35 Tryz.ntmps18 rfl fun A F => ?_;refine sq (rg ?_);refine as1 F fun A F=>?_;refine en (sq (rg ?_));refine mv F fun A F=>?_;refine ni F fun A F=>?_;refine fl F 6 fun A F=>?_;refine sw_ext F ((kb.cell 6).trans rfl) ⟨rfl, rfl, rfl⟩ rfl (by kernel_rfl) rfl fun A F => ?_;refine eqi F fun A F=>?_;rw [he] at F;refine mv F fun A F=>?_;refine off4 F 5 5 5 5 fun A F=>?_;refine off3 F 5 5 5 fun A F=>?_;refine ofu F 12 fun A F=>?_;refine ofu F 12 fun A F=>?_;refine ofu F 12 fun A F=>?_;refine ofu F 12 fun A F=>?_;refine ofu F 12 fun A F=>?_;refine ofu F 12 fun A F=>?_;refine off F 5 fun A F=>?_;refine pkF F fun A F=>?_;refine mv F fun A F=>?_;refine off4 F 21 21 21 21 fun A F=>?_;refine off3 F 21 21 21 fun A F=>?_;refine pkF F fun A F=>?_;refine as1 F fun A F=>?_;refine en (wp_ret ?_);repeat first|refine tr ?_|refine br ?_
 exact sw_rettmp F Tryz.results18 rfl ⟨rfl, hB, kb⟩
theorem ris_m (s : Key) (text : Key) (c : C4) (b : Nat) (S : ES) : Meth Tryz.prog (PdX text c b) (fun k => k = b) 18 [ptr b, .string (str s)] S fun v fs S' => v = .bool (stands s S) ∧ S = S' := by
 refine ⟨by kernel_rfl, fun w R _ => ?_⟩
 cases S with
 | error e0 =>
  obtain ⟨h, a, kd, t, n, lv, k⟩ := R;refine (is_e e0 (by simpa using h) s text c b _ _ _ _ _ w k).mono ?_;rintro e w' ⟨rfl, hB, k'⟩;exact ⟨_, [], .error e0, rfl, hB, ⟨h, _, _, _, _, _, k'⟩, lie_nil _ _, rfl, rfl⟩
 | ok σ =>
  have R0 := R;obtain ⟨a, t, h1, h2, k, h3, h4⟩ := R;have fin : ∀ (w' : World) (x : Bool), But (fun k => k = b) w w' → Blk w' b (pC text a (tokK σ.now) t σ.now.n σ.lv 0 c) 48 → x = stands s (.ok σ) → ∃ v fs s', Ending.returned (.bool x) = .returned v ∧ But (fun k => k = b) w w' ∧ PdX text c b s' w' ∧ lieAll w.heap.size w' fs ∧ v = .bool (stands s (.ok σ)) ∧ .ok σ = s' := fun w' x hB k' hx => ⟨_, [], .ok σ, rfl, hB, ⟨a, t, h1, h2, k', h3, h4⟩, lie_nil _ _, by rw [hx], rfl⟩
  cases hn : σ.now with
  | none =>
   rw [hn] at k fin;refine (is_0 s text c b _ _ _ _ w k).mono ?_;rintro e w' ⟨rfl, hB, k'⟩;exact fin w' _ hB k' (by simp [stands, hn])
  | fin =>
   rw [hn] at k fin;refine (is_101 s text c b _ _ _ _ w k).mono ?_;rintro e w' ⟨rfl, hB, k'⟩;exact fin w' _ hB k' (by simp [stands, hn])
  | name r =>
   rw [hn] at k fin;refine (is_110 s text c b _ _ _ _ w k).mono ?_;rintro e w' ⟨rfl, hB, k'⟩;exact fin w' _ hB k' (by simp [stands, hn])
  | num m =>
   rw [hn] at k fin;refine (is_48 s text c b _ _ _ _ w k).mono ?_;rintro e w' ⟨rfl, hB, k'⟩;exact fin w' _ hB k' (by simp [stands, hn])
  | fixed r =>
   rw [hn] at k fin h3;obtain ⟨rfl, h3⟩ := h3
   have hx : (t == s) = stands s (.ok σ) := by
    simp only [stands, hn];rw [Bool.eq_iff_iff];simp
   by_cases hw : wordL.contains t = true
   ·have hk : tokK (.fixed t) = 119 := by simp only [tokK, hw, if_true]
    rw [hk] at k fin;refine (is_119 s text c b _ _ _ _ w k).mono ?_;rintro e w' ⟨rfl, hB, k'⟩;exact fin w' _ hB k' hx
   ·have hk : tokK (.fixed t) = 115 := by simp only [tokK, hw]; rfl
    rw [hk] at k fin;refine (is_115 s text c b _ _ _ _ w k).mono ?_;rintro e w' ⟨rfl, hB, k'⟩;exact fin w' _ hB k' hx
end Go.Proofs.YthhpkjmhcolgfaaGreatDoor
