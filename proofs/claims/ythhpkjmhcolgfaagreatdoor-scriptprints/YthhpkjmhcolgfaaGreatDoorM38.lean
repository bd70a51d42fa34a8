import Derived.Test.YthhpkjmhcolgfaaGreatDoorM37
namespace Go.Proofs.YthhpkjmhcolgfaaGreatDoor
open Go.RowKit
set_option linter.unusedVariables false
set_option linter.unusedSimpArgs false
set_option maxRecDepth 20000
set_option maxHeartbeats 8000000
theorem opvs_two {L : List (Nat × Value)} {x y : Operand} {u v : Value} (h : opv L x = some u) (g : opv L y = some v) : opvs L [x, y] = some [u, v] := by simp only [opvs, h, g]
theorem WrS.mk3 {b : Nat} {W0 w0 : World} {e : Ent} {E : List Ent} {p : PS} {w : World} {la : Option Addr} {lc : Nat} {t : Key} (M : Mm (Bx W0) (fun _ => False) w0 (e :: .box b (wrC la lc t p) 56 :: .raw (.slice la t.length lc) 5 (bysV t) :: E) () w) (h : TxOk t p.tx) : WrS b W0 w0 (e :: E) p w := ⟨la, lc, t, M.rot, h⟩
section
variable {ops : Array Oper} {Q : Exit → Act → World → Prop} {a : Act} {w w' w0 W0 : World} {rest : List Oper} {o o1 o2 : Oper} {N : Nat} {L : List (Nat × Value)} {E : List Ent} {b : Nat} {p : PS}
theorem sw_cellR (F : Fm N L a) (R : WrS b W0 w0 E p w) (k : Nat) {i : Nat} {t : TypeId} {x : Operand} {c n : Nat} {v : Value} {cs : List Value} {ty : TypeId} (h : Is o (some i) (.load t x)) (hx : opv L x = some (.pointer (some ⟨c, n, none⟩))) (hk : E[k]? = some (.box c cs ty)) (hc : cs[n]? = some v) (ht : cellT Tryz.prog t = true) (hi : Nat.blt i N = true) (K : ∀ a', Fm N ((i, v) :: L) a' → wpList Tryz.prog ops Q rest a' w) : wpList Tryz.prog ops Q (o :: rest) a w := by
 obtain ⟨la, lc, t, M, _⟩ := R;exact sw_cell F M (k + 2) h hx hk hc ht hi K
theorem sw_allR (F : Fm N L a) (R : WrS b W0 w0 E p w) (k : Nat) {i : Nat} {t : TypeId} {x : Operand} {c : Nat} {cs : List Value} {ty : TypeId} (h : Is o (some i) (.load t x)) (hx : opv L x = some (.pointer (some ⟨c, 0, none⟩))) (hk : E[k]? = some (.box c cs ty)) (ht : rowT Tryz.prog t = true) (hz : (Tryz.prog.info? t).map (·.size) = some cs.length) (hi : Nat.blt i N = true) (K : ∀ a', Fm N ((i, .agg cs.toArray) :: L) a' → wpList Tryz.prog ops Q rest a' w) : wpList Tryz.prog ops Q (o :: rest) a w := by
 obtain ⟨la, lc, t, M, _⟩ := R;exact sw_all F M (k + 2) h hx hk ht hz hi K
theorem sw_say (F : Fm N L a) (R : WrS b W0 w0 E p w) (toks : List Key) (ft : Fit p (toks.map .tok)) {i1 i2 n : Nat} {x : Operand} {ps : Array (Nat × Operand)} {ts : Array TypeId} (h1 : Is o1 (some i1) (.buildSlice 38 n ps)) (h2 : Is o2 (some i2) (.call { callee := .value (.func 60), args := #[x, .tmp i1], argTypes := ts })) (hv : opvs L (ps.toList.map (·.2)) = some (toks.map fun s => .string (str s))) (hx : ∀ u, opv ((i1, u) :: L) x = some (ptr b)) (hn : toks.length = n) (hn2 : (Nat.blt 0 n && Nat.ble n 1000) = true) (hf : Instr.fill (fun i => some (i * 1, 1)) ((Array.range (n * 1)).map ((Value.string ⟨#[]⟩).cells[· % (Value.string ⟨#[]⟩).cells.size]!)) ((ps.toList.map (·.1)).zip (toks.map fun s => .string (str s))) = some (flatV (toks.map fun s => [Fld.s s])).toArray) (hN : (Nat.blt i1 N && Nat.blt i2 N) = true)
  (K : ∀ u a' w', Fm N ((i2, .tuple #[]) :: (i1, u) :: L) a' → WrS b W0 w0 E (p.run (toks.map .tok)) w' → wpList Tryz.prog ops Q rest a' w') : wpList Tryz.prog ops Q (o1 :: o2 :: rest) a w := by
 obtain ⟨la, lc, t, M, ht⟩ := R;rw [Bool.and_eq_true] at hN
 have hn9 : n ≤ 1000 := by
  rw [Bool.and_eq_true] at hn2
  simpa [Nat.ble_eq] using hn2.2
 refine sw_mkrow (ety := 9) (sz := 1) (z := .string ⟨#[]⟩) F M _ (toks.map fun s => [.s s]) h1 hv Tryz.underlying38 (by kernel_rfl) (by rw [Nat.mul_one]; exact hn2) hf (by rw [List.length_map, hn]) ?_ ?_ hN.1 fun x A w F M => ?_
 ·intro g hg;obtain ⟨s, _, rfl⟩ := List.mem_map.1 hg;exact ⟨rfl, lie_cons trivial (lie_nil _ _)⟩
 ·intro i f b hf hm g hg;obtain ⟨s, _, rfl⟩ := List.mem_map.1 hg;intro y hy;rw [List.mem_singleton.1 hy];trivial
 have R : WrS b W0 w0 _ p w := WrS.mk3 M ht;have hs := say_m b W0 toks x n hn hn9;refine sw_callR hs.1 (hs.2 w0 _ p w R ft) F h2 (opvs_two (hx _) (by simp [opv, lk])) hN.2 ?_;rintro e w' ⟨rfl, R'⟩;exact ⟨_, rfl, fun A F => K _ A w' F R'.tl⟩
end
theorem open_m (b : Nat) (W0 : World) (s : Key) : WrM b W0 120 [ptr b, .string (str s)] (upV ++ tkn s) := by
 refine ⟨by kernel_rfl, fun w0 E p w R ft => ?_⟩;rw [show upV ++ tkn s = upV ++ (tkn s ++ []) by rw [List.append_nil]] at ft;refine sw_fn Tryz.func120 rfl 10 Tryz.ntmps120 rfl fun A F => ?_;refine sq (rg ?_);refine mv F fun A F=>?_;refine sw_callW (deeper_m b W0) F R ft.l ⟨rfl, rfl, rfl⟩ rfl rfl fun A w F R => ?_;replace ft := ft.r;refine en (rg ?_);refine mv F fun A F=>?_;refine mv F fun A F=>?_;refine sw_say F R [s] ft.l ⟨rfl, rfl, rfl⟩ ⟨rfl, rfl, rfl⟩ rfl (fun _ => rfl) rfl rfl (by kernel_rfl) rfl fun _ A w F R => ?_;replace ft := ft.r;refine sw_end ?_;repeat first|refine tn ?_|refine bn ?_
 exact sw_endnone F Tryz.results120 ⟨rfl, by rw [PS.run_app]; exact R⟩
theorem shut_m (b : Nat) (W0 : World) (s : Key) : WrM b W0 122 [ptr b, .string (str s)] (tkn s ++ downV) := by
 refine ⟨by kernel_rfl, fun w0 E p w R ft => ?_⟩;rw [show tkn s ++ downV = tkn s ++ (downV ++ []) by rw [List.append_nil]] at ft;refine sw_fn Tryz.func122 rfl 15 Tryz.ntmps122 rfl fun A F => ?_;refine sq (rg ?_);refine mv F fun A F=>?_;refine mv F fun A F=>?_;refine sw_say F R [s] ft.l ⟨rfl, rfl, rfl⟩ ⟨rfl, rfl, rfl⟩ rfl (fun _ => rfl) rfl rfl (by kernel_rfl) rfl fun _ A w F R => ?_;replace ft := ft.r;have hb0 : Rm (p.run ([s].map .tok)) 0 := Rm.less ft (Nat.zero_le _);obtain ⟨_, hb1, hb2, _⟩ := hb0;obtain ⟨la, lc, t, M, ht⟩ := R;unfold WrI wrC at M;refine en (rg ?_);refine mv F fun A F=>?_;refine ni F fun A F=>?_;refine fl F 1 fun A F=>?_;refine ce F M 0 fun A F=>?_;refine sw_sub F ⟨rfl, rfl, rfl⟩ rfl rfl (by omega) rfl fun A F => ?_;refine ni F fun A F=>?_;refine fl F 1 fun A F=>?_;refine st1 F M 0 fun w M=>?_;dsimp only [List.set] at M;refine sw_end ?_;repeat first|refine tn ?_|refine bn ?_
 exact sw_endnone F Tryz.results122 ⟨rfl, la, lc, t, by rw [PS.run_app]; exact M, by rw [PS.run_app]; exact ht⟩
theorem name_fm {s : Key} (h : nmB s = true) : nameV s = tkn s := if_pos h
theorem kind_fm {k : Int} (h : 1 ≤ k ∧ k ≤ 3) : kindV k = tkn (kindK k) := if_pos h
theorem XT.all_len (l : List XT) : (XT.all l).length = l.length := by rw [XT.all_map, List.length_map]
structure XtF (op n : Int) (s : Key) (ar : List XT) : Prop where
 rng : 1 ≤ op ∧ op ≤ 26
 nm : nmIf (namedI op) s = true
 num : 0 ≤ n ∧ n ≤ mostI op
 len : ar.length = takesI op ar.length
 all : XT.fms ar = true
 ok : okX op n s (XT.all ar).length = true
theorem XT.parts {op n : Int} {s : Key} {ar : List XT} (h : (XT.mk op n s ar).fm = true) : XtF op n s ar := by
 rw [XT.fm, Bool.and_eq_true] at h;obtain ⟨h, ha⟩ := h;have ok := h;rw [fmX_ok, Bool.and_eq_true] at ok;unfold fmX at h;simp only [Bool.and_eq_true, decide_eq_true_eq, beq_iff_eq] at h;exact ⟨h.1.1.1, h.1.1.2, h.1.2, h.2, ha, by rw [XT.all_len]; exact ok.1⟩
theorem XtF.not {op n : Int} {s : Key} {ar : List XT} (h : XtF op n s ar) : ¬ okX op n s (XT.all ar).length = false := by rw [h.ok]; decide
theorem XtF.named {op n : Int} {s : Key} {ar : List XT} (h : XtF op n s ar) (q : namedI op = true) : nmB s = true := by
 have := h.nm;rw [q] at this;exact this
theorem one_len {α : Type} {l : List α} (h : l.length = 1) : ∃ y, l = [y] := by
 match l, h with
 | [y], _ => exact ⟨y, rfl⟩
theorem XtF.one {op n : Int} {s : Key} {ar : List XT} (h : XtF op n s ar) (q : ∀ k, takesI op k = 1) : ∃ y, ar = [y] ∧ y.fm = true := by
 have h1 := h.len;rw [q] at h1;obtain ⟨y, rfl⟩ := one_len h1;have := h.all;rw [XT.fms, Bool.and_eq_true] at this;exact ⟨y, rfl, this.1⟩
theorem XtF.two {op n : Int} {s : Key} {ar : List XT} (h : XtF op n s ar) (q : isTwo op = true) : ∃ y z, ar = [y, z] ∧ y.fm = true ∧ z.fm = true := by
 have h1 := h.len;rw [takesI, if_pos q] at h1;obtain ⟨y, z, rfl⟩ := two_len h1;have := h.all;rw [XT.fms, XT.fms, Bool.and_eq_true, Bool.and_eq_true] at this;exact ⟨y, z, rfl, this.1, this.2.1⟩
theorem ev_1 {n : Int} {s : Key} {ar : List XT} (h : XtF 1 n s ar) : (XT.mk 1 n s ar).evs = tkn (digK n.toNat) := by
 rw [XT.evs, shX, if_neg h.not, if_neg (by decide), if_pos rfl]
theorem ev_2 {n : Int} {s : Key} {ar : List XT} (h : XtF 2 n s ar) : (XT.mk 2 n s ar).evs = tkn (if n = 1 then [116, 114, 117, 101] else [102, 97, 108, 115, 101]) := by
 rw [XT.evs, shX, if_neg h.not, if_neg (by decide), if_neg (by decide), if_pos rfl]
theorem ev_3 {n : Int} {s : Key} {ar : List XT} (h : XtF 3 n s ar) : (XT.mk 3 n s ar).evs = tkn s := by
 rw [XT.evs, shX, if_neg h.not, if_neg (by decide), if_neg (by decide), if_neg (by decide), if_pos rfl, name_fm (h.named rfl)]
def innV (o : Key) (b : List PEv) (c : Key) : List PEv := upV ++ tkn o ++ b ++ (tkn c ++ downV)
theorem ev_4 {n : Int} {s : Key} {y : XT} (h : XtF 4 n s [y]) : (XT.mk 4 n s [y]).evs = tkn s ++ innV [91] y.evs [93] := by
 rw [XT.evs, shX, if_neg h.not, if_neg (by decide), if_neg (by decide), if_neg (by decide), if_neg (by decide), if_pos rfl, name_fm (h.named rfl), innV];simp only [XT.all, List.map_cons, List.map_nil, List.getD_cons_zero, List.append_assoc]
theorem ev_5 {n : Int} {s : Key} {ar : List XT} (h : XtF 5 n s ar) : (XT.mk 5 n s ar).evs = tkn s ++ argsV (ar.map XT.evs) := by
 rw [XT.evs, shX, if_neg h.not, if_neg (by decide), if_neg (by decide), if_neg (by decide), if_neg (by decide), if_neg (by decide), if_pos rfl, name_fm (h.named rfl), XT.all_map, List.map_map];rfl
theorem ev_8 {n : Int} {s : Key} {y : XT} (h : XtF 8 n s [y]) : (XT.mk 8 n s [y]).evs = upV ++ tkn [110, 111, 116] ++ brkV 3 y.op y.evs ++ downV := by
 rw [XT.evs, shX, if_neg h.not, if_neg (by decide), if_neg (by decide), if_neg (by decide), if_neg (by decide), if_neg (by decide), if_neg (by decide), if_pos rfl];simp only [XT.all, List.map_cons, List.map_nil, List.getD_cons_zero]
theorem ev_two {op n : Int} {s : Key} {y z : XT} (h : XtF op n s [y, z]) (q : isTwo op = true) : (XT.mk op n s [y, z]).evs = brkV (if holdI op = 4 then 5 else holdI op) y.op y.evs ++ tkn (opWord op) ++ brkV (holdI op + 1) z.op z.evs := by
 rw [XT.evs, shX, if_neg h.not, if_pos q];simp only [XT.all, List.map_cons, List.map_nil, List.getD_cons_zero, List.getD_cons_succ]
theorem ev_bare {op n : Int} {s : Key} {ar : List XT} (h : XtF op n s ar) (q : 20 ≤ op ∧ op ≤ 23) : (XT.mk op n s ar).evs = tkn (opWord op) := by
 rw [XT.evs, shX, if_neg h.not, if_neg (by unfold isTwo; rw [decide_eq_true_eq]; omega), if_neg (by omega), if_neg (by omega), if_neg (by omega), if_neg (by omega), if_neg (by omega), if_neg (by omega), if_pos q.2]
theorem ev_one {op n : Int} {s : Key} {y : XT} (h : XtF op n s [y]) (q : 24 ≤ op ∧ op ≤ 26) : (XT.mk op n s [y]).evs = tkn (opWord op) ++ innV [40] y.evs [41] := by
 rw [XT.evs, shX, if_neg h.not, if_neg (by unfold isTwo; rw [decide_eq_true_eq]; omega), if_neg (by omega), if_neg (by omega), if_neg (by omega), if_neg (by omega), if_neg (by omega), if_neg (by omega), if_neg (by omega), innV, argsV];simp only [XT.all, List.map_cons, List.map_nil, sepV, List.length_cons, List.length_nil, List.append_assoc];rfl
theorem no_args {op n : Int} {s : Key} {ar : List XT} (h : XtF op n s ar) (q : 20 ≤ op ∧ op ≤ 23) : ar = [] := by
 have h1 := h.len;rw [takesI, if_neg (by unfold isTwo; rw [decide_eq_true_eq]; omega), if_neg (by omega), if_neg (by omega)] at h1;exact List.eq_nil_of_length_eq_zero h1
theorem hold_ops {op : Int} (h : 1 ≤ op ∧ op ≤ 26) (h1 : holdI op ≠ 7) (h2 : holdI op ≠ 3) : isTwo op = true := by
 unfold holdI at h1 h2;unfold isTwo;rw [decide_eq_true_eq]
 by_cases a : op = 6
 ·omega
 by_cases b : op = 7
 ·omega
 by_cases c : op = 8
 ·subst c; exact absurd rfl h2
 by_cases d : 9 ≤ op ∧ op ≤ 14
 ·omega
 by_cases e : op = 15 ∨ op = 16
 ·omega
 by_cases f : 17 ≤ op ∧ op ≤ 19
 ·omega
 rw [if_neg a, if_neg b, if_neg c, if_neg d, if_neg e, if_neg f] at h1;exact absurd rfl h1
theorem hold_not {op : Int} (h : holdI op = 3) : op = 8 := by
 unfold holdI at h
 split at h
 ·cases h
 ·split at h
  ·cases h
  ·split at h
   ·assumption
   ·split at h
    ·cases h
    ·split at h
     ·cases h
     ·split at h <;> cases h
theorem hold_rng (op : Int) : 1 ≤ holdI op ∧ holdI op ≤ 7 := by
 unfold holdI
 split
 ·omega
 ·split
  ·omega
  ·split
   ·omega
   ·split
    ·omega
    ·split
     ·omega
     ·split <;> omega
theorem hold_atom {op : Int} (h : 1 ≤ op ∧ op ≤ 26) (h1 : holdI op = 7) : op ≤ 5 ∨ 20 ≤ op := by
 unfold holdI at h1
 by_cases a : op = 6
 ·subst a; cases h1
 by_cases b : op = 7
 ·subst b; cases h1
 by_cases c : op = 8
 ·subst c; cases h1
 by_cases d : 9 ≤ op ∧ op ≤ 14
 ·rw [if_neg a, if_neg b, if_neg c, if_pos d] at h1; cases h1
 by_cases e : op = 15 ∨ op = 16
 ·rw [if_neg a, if_neg b, if_neg c, if_neg d, if_pos e] at h1; cases h1
 by_cases f : 17 ≤ op ∧ op ≤ 19
 ·rw [if_neg a, if_neg b, if_neg c, if_neg d, if_neg e, if_pos f] at h1; cases h1
 omega
structure StW (k : Int) (nm al ca : Key) (ty : Int) (es : List XT) (bs ls : List ST) : Prop where
 rng : 1 ≤ k ∧ k ≤ 10
 hnm : nmIf (wantsI k).1 nm = true
 hal : nmIf (decide (k = 10)) al = true
 hca : nmIf (decide (k = 10)) ca = true
 hty : kdIf (wantsI k).2.1 ty = true
 num : (es.length : Int) = (wantsI k).2.2.1 ∨ k = 10 ∧ (wantsI k).2.2.1 < es.length
 nob : (wantsI k).2.2.2 < 2 → ls = []
 hes : XT.fms es = true
 hbs : ST.fms bs = true
 hls : ST.fms ls = true
 ok : okS k nm al ca ty (es.map XT.evs).length (ST.all bs).length (ST.all ls).length = true
theorem ST.all_len (l : List ST) : (ST.all l).length = l.length := by rw [ST.all_map, List.length_map]
theorem ST.parts {k ty : Int} {nm al ca : Key} {es : List XT} {bs ls : List ST} (h : (ST.mk k nm al ca ty es bs ls).fm = true) : StW k nm al ca ty es bs ls := by
 rw [ST.fm, Bool.and_eq_true, Bool.and_eq_true, Bool.and_eq_true] at h;obtain ⟨⟨⟨h, he⟩, hb⟩, hl⟩ := h;have ok := h;rw [fmS_ok] at ok;simp only [Bool.and_eq_true] at ok;unfold fmS at h;simp only [Bool.and_eq_true, Bool.or_eq_true, Bool.not_eq_true', Bool.and_eq_false_iff, decide_eq_true_eq, decide_eq_false_iff_not] at h;obtain ⟨⟨⟨⟨⟨⟨⟨h1, h2⟩, h3⟩, h4⟩, h5⟩, h6⟩, h7⟩, h8⟩ := h;refine ⟨h1, h2, h3, h4, h5, h6, fun q => ?_, he, hb, hl, by rw [List.length_map, ST.all_len, ST.all_len]; exact ok.1.1.1⟩;rcases h8 with z | z
 ·exact absurd q z
 ·exact List.eq_nil_of_length_eq_zero (by omega)
section
variable {k ty : Int} {nm al ca : Key} {es : List XT} {bs ls : List ST}
theorem StW.not (h : StW k nm al ca ty es bs ls) : ¬ okS k nm al ca ty (es.map XT.evs).length (ST.all bs).length (ST.all ls).length = false := by rw [h.ok]; decide
theorem StW.one (h : StW k nm al ca ty es bs ls) (q : (wantsI k).2.2.1 = 1) (q2 : k ≠ 10) : ∃ x, es = [x] ∧ x.fm = true := by
 have h1 := h.num;rw [q] at h1;obtain ⟨x, rfl⟩ := one_len (l := es) (by omega);have := h.hes;rw [XT.fms, Bool.and_eq_true] at this;exact ⟨x, rfl, this.1⟩
theorem StW.two (h : StW k nm al ca ty es bs ls) (q : (wantsI k).2.2.1 = 2) (q2 : k ≠ 10) : ∃ x y, es = [x, y] ∧ x.fm = true ∧ y.fm = true := by
 have h1 := h.num;rw [q] at h1;obtain ⟨x, y, rfl⟩ := two_len (l := es) (by omega);have := h.hes;rw [XT.fms, XT.fms, Bool.and_eq_true, Bool.and_eq_true] at this;exact ⟨x, y, rfl, this.1, this.2.1⟩
theorem StW.named (h : StW k nm al ca ty es bs ls) (q : (wantsI k).1 = true) : nmB nm = true := by
 have := h.hnm;rw [q] at this;exact this
theorem sv_1 {x : XT} (h : StW 1 nm al ca ty [x] bs ls) : (ST.mk 1 nm al ca ty [x] bs ls).evs = tkn [108, 101, 116] ++ (tkn nm ++ tkn [58] ++ tkn (kindK ty) ++ (tkn [61] ++ (x.evs ++ tkn [59]))) := by
 have hk : 1 ≤ ty ∧ ty ≤ 3 := by
  have := h.hty;exact of_decide_eq_true this
 rw [ST.evs, shS, if_neg h.not, if_pos rfl, name_fm (h.named rfl), kind_fm hk];simp only [List.map_cons, List.map_nil, List.getD_cons_zero, List.append_assoc]
theorem sv_2 {x : XT} (h : StW 2 nm al ca ty [x] bs ls) : (ST.mk 2 nm al ca ty [x] bs ls).evs = tkn nm ++ tkn [61] ++ (x.evs ++ tkn [59]) := by
 rw [ST.evs, shS, if_neg h.not, if_neg (by decide), if_pos rfl, name_fm (h.named rfl)];simp only [List.map_cons, List.map_nil, List.getD_cons_zero, List.append_assoc]
theorem sv_3 {x y : XT} (h : StW 3 nm al ca ty [x, y] bs ls) : (ST.mk 3 nm al ca ty [x, y] bs ls).evs = tkn nm ++ (innV [91] x.evs [93] ++ (tkn [61] ++ (y.evs ++ tkn [59]))) := by
 rw [ST.evs, shS, if_neg h.not, if_neg (by decide), if_neg (by decide), if_pos rfl, name_fm (h.named rfl), innV];simp only [List.map_cons, List.map_nil, List.getD_cons_zero, List.getD_cons_succ, List.append_assoc]
theorem sv_4 {x : XT} (h : StW 4 nm al ca ty [x] bs ls) : (ST.mk 4 nm al ca ty [x] bs ls).evs = tkn [105, 102] ++ (x.evs ++ (blockV (bs.map ST.evs) ++ (if ls.isEmpty then [] else tkn [101, 108, 115, 101] ++ blockV (ls.map ST.evs)))) := by
 rw [ST.evs, shS, if_neg h.not, if_neg (by decide), if_neg (by decide), if_neg (by decide), if_pos rfl];simp only [List.map_cons, List.map_nil, List.getD_cons_zero, ST.all_map, List.append_assoc, List.isEmpty_map]
theorem sv_5 {x : XT} (h : StW 5 nm al ca ty [x] bs ls) : (ST.mk 5 nm al ca ty [x] bs ls).evs = tkn [119, 104, 105, 108, 101] ++ (x.evs ++ (blockV (bs.map ST.evs) ++ (if ls.isEmpty then [] else tkn [101, 108, 115, 101] ++ blockV (ls.map ST.evs)))) := by
 have := h.nob (by decide);subst this;rw [ST.evs, shS, if_neg h.not, if_neg (by decide), if_neg (by decide), if_neg (by decide), if_neg (by decide), if_pos rfl];simp only [List.map_cons, List.map_nil, List.getD_cons_zero, ST.all_map, List.append_assoc, List.isEmpty_nil, if_true, List.append_nil]
theorem sv_8 {x y : XT} (h : StW 8 nm al ca ty [x, y] bs ls) : (ST.mk 8 nm al ca ty [x, y] bs ls).evs = tkn [112, 97, 121] ++ (x.evs ++ (tkn [44] ++ (y.evs ++ tkn [59]))) := by
 rw [ST.evs, shS, if_neg h.not, if_neg (by decide), if_neg (by decide), if_neg (by decide), if_neg (by decide), if_neg (by decide), if_neg (by decide), if_neg (by decide), if_pos rfl];simp only [List.map_cons, List.map_nil, List.getD_cons_zero, List.getD_cons_succ, List.append_assoc]
def wdS (k : Int) : Key := if k = 6 then [114, 101, 116, 117, 114, 110] else if k = 7 then [110, 101, 101, 100] else [110, 111, 116, 101]
theorem sv_one {x : XT} (h : StW k nm al ca ty [x] bs ls) (q : k = 6 ∨ k = 7 ∨ k = 9) : (ST.mk k nm al ca ty [x] bs ls).evs = tkn (wdS k) ++ (x.evs ++ tkn [59]) := by
 rcases q with rfl | rfl | rfl
 ·rw [ST.evs, shS, if_neg h.not, if_neg (by decide), if_neg (by decide), if_neg (by decide), if_neg (by decide), if_neg (by decide), if_pos rfl];rfl
 ·rw [ST.evs, shS, if_neg h.not, if_neg (by decide), if_neg (by decide), if_neg (by decide), if_neg (by decide), if_neg (by decide), if_neg (by decide), if_pos rfl];rfl
 ·rw [ST.evs, shS, if_neg h.not, if_neg (by decide), if_neg (by decide), if_neg (by decide), if_neg (by decide), if_neg (by decide), if_neg (by decide), if_neg (by decide), if_neg (by decide), if_pos rfl];rfl
theorem StW.ask (h : StW 10 nm al ca ty es bs ls) : nmB nm = true ∧ nmB al = true ∧ nmB ca = true ∧ ∃ x y z r, es = x :: y :: z :: r ∧ x.fm = true ∧ y.fm = true ∧ z.fm = true ∧ XT.fms r = true := by
 have h1 := h.num;rw [show (wantsI 10).2.2.1 = 3 from rfl] at h1;have h2 := h.hes;have h3 : nmB al = true := h.hal;have h4 : nmB ca = true := h.hca;refine ⟨h.named rfl, h3, h4, ?_⟩
 match es, h1, h2 with
 | [], h1, _ => simp at h1
 | [_], h1, _ => simp at h1
 | [_, _], h1, _ => simp at h1
 | x :: y :: z :: r, _, h2 =>
  rw [XT.fms, XT.fms, XT.fms, Bool.and_eq_true, Bool.and_eq_true, Bool.and_eq_true] at h2;exact ⟨x, y, z, r, rfl, h2.1, h2.2.1, h2.2.2.1, h2.2.2.2⟩
theorem sv_10 {x y z : XT} {r : List XT} (h : StW 10 nm al ca ty (x :: y :: z :: r) bs ls) : (ST.mk 10 nm al ca ty (x :: y :: z :: r) bs ls).evs = tkn [97, 115, 107] ++ (tkn nm ++ tkn [44] ++ tkn al ++ tkn [61] ++ (x.evs ++ (tkn [46] ++ tkn ca ++ (argsV (r.map XT.evs) ++ (tkn [118, 97, 108, 117, 101] ++ (y.evs ++ (tkn [103, 97, 115] ++ (z.evs ++ tkn [59])))))))) := by
 have q := h.ask;rw [ST.evs, shS, if_neg h.not, if_neg (by decide), if_neg (by decide), if_neg (by decide), if_neg (by decide), if_neg (by decide), if_neg (by decide), if_neg (by decide), if_neg (by decide), if_neg (by decide), name_fm q.1, name_fm q.2.1, name_fm q.2.2.1];simp only [List.map_cons, List.getD_cons_zero, List.getD_cons_succ, List.drop_succ_cons, List.drop_zero, List.append_assoc]
end
end Go.Proofs.YthhpkjmhcolgfaaGreatDoor
