import Derived.Test.YtpofgnlkhkednaaGreatDoorM35
namespace Go.Proofs.YtpofgnlkhkednaaGreatDoor
open Go.RowKit
set_option linter.unusedVariables false
set_option linter.unusedSimpArgs false
set_option maxRecDepth 20000
set_option maxHeartbeats 8000000
theorem opvs_two {L : List (Nat × Value)} {x y : Operand} {u v : Value} (h : opv L x = some u) (g : opv L y = some v) : opvs L [x, y] = some [u, v] := by simp only [opvs, h, g]
theorem WrS.mk3 {b : Nat} {W0 w0 : World} {e : Ent} {E : List Ent} {p : PS} {w : World} {la : Option Addr} {lc : Nat} {t : Key} (M : Mm (Bx W0) (fun _ => False) w0 (e :: .box b (wrC la lc t p) 45 :: .raw (.slice la t.length lc) 5 (bysV t) :: E) () w) (h : TxOk t p.tx) : WrS b W0 w0 (e :: E) p w := ⟨la, lc, t, M.rot, h⟩
section
variable {ops : Array Oper} {Q : Exit → Act → World → Prop} {a : Act} {w w' w0 W0 : World} {rest : List Oper} {o o1 o2 : Oper} {N : Nat} {L : List (Nat × Value)} {E : List Ent} {b : Nat} {p : PS}
theorem sw_cellR (F : Fm N L a) (R : WrS b W0 w0 E p w) (k : Nat) {i : Nat} {t : TypeId} {x : Operand} {c n : Nat} {v : Value} {cs : List Value} {ty : TypeId} (h : Is o (some i) (.load t x)) (hx : opv L x = some (.pointer (some ⟨c, n, none⟩))) (hk : E[k]? = some (.box c cs ty)) (hc : cs[n]? = some v) (ht : cellT Tryz.prog t = true) (hi : Nat.blt i N = true) (K : ∀ a', Fm N ((i, v) :: L) a' → wpList Tryz.prog ops Q rest a' w) : wpList Tryz.prog ops Q (o :: rest) a w := by
 obtain ⟨la, lc, t, M, _⟩ := R;exact sw_cell F M (k + 2) h hx hk hc ht hi K
theorem sw_allR (F : Fm N L a) (R : WrS b W0 w0 E p w) (k : Nat) {i : Nat} {t : TypeId} {x : Operand} {c : Nat} {cs : List Value} {ty : TypeId} (h : Is o (some i) (.load t x)) (hx : opv L x = some (.pointer (some ⟨c, 0, none⟩))) (hk : E[k]? = some (.box c cs ty)) (ht : rowT Tryz.prog t = true) (hz : (Tryz.prog.info? t).map (·.size) = some cs.length) (hi : Nat.blt i N = true) (K : ∀ a', Fm N ((i, .agg cs.toArray) :: L) a' → wpList Tryz.prog ops Q rest a' w) : wpList Tryz.prog ops Q (o :: rest) a w := by
 obtain ⟨la, lc, t, M, _⟩ := R;exact sw_all F M (k + 2) h hx hk ht hz hi K
theorem sw_say (F : Fm N L a) (R : WrS b W0 w0 E p w) (toks : List Key) (ft : Fit p (toks.map .tok)) {i1 i2 n : Nat} {x : Operand} {ps : Array (Nat × Operand)} {ts : Array TypeId} (h1 : Is o1 (some i1) (.buildSlice 92 n ps)) (h2 : Is o2 (some i2) (.call { callee := .value (.func 30), args := #[x, .tmp i1], argTypes := ts })) (hv : opvs L (ps.toList.map (·.2)) = some (toks.map fun s => .string (str s))) (hx : ∀ u, opv ((i1, u) :: L) x = some (ptr b)) (hn : toks.length = n) (hn2 : (Nat.blt 0 n && Nat.ble n 1000) = true) (hf : Instr.fill (fun i => some (i * 1, 1)) ((Array.range (n * 1)).map ((Value.string ⟨#[]⟩).cells[· % (Value.string ⟨#[]⟩).cells.size]!)) ((ps.toList.map (·.1)).zip (toks.map fun s => .string (str s))) = some (flatV (toks.map fun s => [Fld.s s])).toArray) (hN : (Nat.blt i1 N && Nat.blt i2 N) = true)
  (K : ∀ u a' w', Fm N ((i2, .tuple #[]) :: (i1, u) :: L) a' → WrS b W0 w0 E (p.run (toks.map .tok)) w' → wpList Tryz.prog ops Q rest a' w') : wpList Tryz.prog ops Q (o1 :: o2 :: rest) a w := by
 obtain ⟨la, lc, t, M, ht⟩ := R;rw [Bool.and_eq_true] at hN
 have hn9 : n ≤ 1000 := by
  rw [Bool.and_eq_true] at hn2
  simpa [Nat.ble_eq] using hn2.2
 refine sw_mkrow (ety := 9) (sz := 1) (z := .string ⟨#[]⟩) F M _ (toks.map fun s => [.s s]) h1 hv Tryz.underlying92 (by kernel_rfl) (by rw [Nat.mul_one]; exact hn2) hf (by rw [List.length_map, hn]) ?_ ?_ hN.1 fun x A w F M => ?_
 ·intro g hg;obtain ⟨s, _, rfl⟩ := List.mem_map.1 hg;exact ⟨rfl, lie_cons trivial (lie_nil _ _)⟩
 ·intro i f b hf hm g hg;obtain ⟨s, _, rfl⟩ := List.mem_map.1 hg;intro y hy;rw [List.mem_singleton.1 hy];trivial
 have R : WrS b W0 w0 _ p w := WrS.mk3 M ht;have hs := say_m b W0 toks x n hn hn9;refine sw_callR hs.1 (hs.2 w0 _ p w R ft) F h2 (opvs_two (hx _) (by simp [opv, lk])) hN.2 ?_;rintro e w' ⟨rfl, R'⟩;exact ⟨_, rfl, fun A F => K _ A w' F R'.tl⟩
end
theorem wopen_m (b : Nat) (W0 : World) (s : Key) : WrM b W0 62 [ptr b, .string (str s)] (upV ++ tkn s) := by
 refine ⟨by kernel_rfl, fun w0 E p w R ft => ?_⟩;rw [show upV ++ tkn s = upV ++ (tkn s ++ []) by rw [List.append_nil]] at ft;refine sw_fn Tryz.func62 rfl 10 Tryz.ntmps62 rfl fun A F => ?_;refine sq (rg ?_);refine mv F fun A F=>?_;refine sw_callW (deeper_m b W0) F R ft.l ⟨rfl, rfl, rfl⟩ rfl rfl fun A w F R => ?_;replace ft := ft.r;refine en (rg ?_);refine mv F fun A F=>?_;refine mv F fun A F=>?_;refine sw_say F R [s] ft.l ⟨rfl, rfl, rfl⟩ ⟨rfl, rfl, rfl⟩ rfl (fun _ => rfl) rfl rfl (by kernel_rfl) rfl fun _ A w F R => ?_;replace ft := ft.r;refine sw_end ?_;repeat first|refine tn ?_|refine bn ?_
 exact sw_endnone F Tryz.results62 ⟨rfl, by rw [PS.run_app]; exact R⟩
theorem wshut_m (b : Nat) (W0 : World) (s : Key) : WrM b W0 64 [ptr b, .string (str s)] (tkn s ++ downV) := by
 refine ⟨by kernel_rfl, fun w0 E p w R ft => ?_⟩;rw [show tkn s ++ downV = tkn s ++ (downV ++ []) by rw [List.append_nil]] at ft;refine sw_fn Tryz.func64 rfl 15 Tryz.ntmps64 rfl fun A F => ?_;refine sq (rg ?_);refine mv F fun A F=>?_;refine mv F fun A F=>?_;refine sw_say F R [s] ft.l ⟨rfl, rfl, rfl⟩ ⟨rfl, rfl, rfl⟩ rfl (fun _ => rfl) rfl rfl (by kernel_rfl) rfl fun _ A w F R => ?_;replace ft := ft.r;have hb0 : Rm (p.run ([s].map .tok)) 0 := Rm.less ft (Nat.zero_le _);obtain ⟨_, hb1, hb2, _⟩ := hb0;obtain ⟨la, lc, t, M, ht⟩ := R;unfold WrI wrC at M;refine en (rg ?_);refine mv F fun A F=>?_;refine ni F fun A F=>?_;refine fl F 1 fun A F=>?_;refine ce F M 0 fun A F=>?_;refine sw_sub F ⟨rfl, rfl, rfl⟩ rfl rfl (by omega) rfl fun A F => ?_;refine ni F fun A F=>?_;refine fl F 1 fun A F=>?_;refine st1 F M 0 fun w M=>?_;dsimp only [List.set] at M;refine sw_end ?_;repeat first|refine tn ?_|refine bn ?_
 exact sw_endnone F Tryz.results64 ⟨rfl, la, lc, t, by rw [PS.run_app]; exact M, by rw [PS.run_app]; exact ht⟩
def WrG (b : Nat) (W0 : World) (G : List Ent → Prop) (f : FuncId) (vs : List Value) (l : List PEv) : Prop := enters Tryz.prog f = true ∧ ∀ w0 E p w, G E → WrS b W0 w0 E p w → Fit p l → Calls Tryz.prog f vs.toArray w fun e w' => e = .returned (.tuple #[]) ∧ WrS b W0 w0 E (p.run l) w'
theorem WrM.g {b : Nat} {W0 : World} {f : FuncId} {vs : List Value} {l : List PEv} (h : WrM b W0 f vs l) (G : List Ent → Prop) : WrG b W0 G f vs l := ⟨h.1, fun w0 E p w _ R ft => h.2 w0 E p w R ft⟩
section
variable {ops : Array Oper} {Q : Exit → Act → World → Prop} {a : Act} {w w' w0 W0 : World} {rest : List Oper} {o o1 o2 : Oper} {N : Nat} {L : List (Nat × Value)} {E : List Ent} {b : Nat} {p : PS}
theorem sw_mkfc (F : Fm N L a) {i : Nat} {f : Fn} {xs ys : Array Operand} {vs us : List Value} (h : Is o (some i) (.makeFunc f xs ys)) (hv : opvs L xs.toList = some vs) (hy : opvs L ys.toList = some us) (hi : Nat.blt i N = true) (K : ∀ a', Fm N ((i, .func f vs.toArray us.toArray) :: L) a' → wpList Tryz.prog ops Q rest a' w) : wpList Tryz.prog ops Q (o :: rest) a w := by
 refine sw_val F h.1 h.2.2 hi ?_ K;unfold execOp;rw [h.2.1];have e : xs.map a.eval = vs.toArray := by rw [← F.evs hv, ← List.map_toArray]
 have e2 : ys.map a.eval = us.toArray := by rw [← F.evs hy, ← List.map_toArray]
 simp [Instr.makeFunc, e, e2]
theorem sw_callWv {f : FuncId} {v0 vs us : List Value} {l : List PEv} {G : List Ent → Prop} (hM : WrG b W0 G f (v0 ++ vs ++ us) l) (hG : G E) (F : Fm N L a) (R : WrS b W0 w0 E p w) (ft : Fit p l) {i : Nat} {x : Operand} {xs : Array Operand} {ts : Array TypeId} (h : Is o (some i) (.call { callee := .value x, args := xs, argTypes := ts })) (hx : opv L x = some (.func (.func f) v0.toArray us.toArray)) (hv : opvs L xs.toList = some vs) (hi : Nat.blt i N = true)
  (K : ∀ a' w', Fm N ((i, .tuple #[]) :: L) a' → WrS b W0 w0 E (p.run l) w' → wpList Tryz.prog ops Q rest a' w') : wpList Tryz.prog ops Q (o :: rest) a w := by
 have e : xs.map a.eval = vs.toArray := by rw [← F.evs hv, ← List.map_toArray]
 have e2 := F.ev hx;refine wpList_plain h.2.2 fun KK hK => ?_
 have hrun : (execOp a.eval o).run Tryz.prog w = .ok (.enter f (v0 ++ vs ++ us).toArray) w := by
  unfold execOp;rw [h.2.1];simp [resolve, Deferred.ofValue, invoke, e2, e, run_enters hM.1]
 unfold Oper.wp;rw [hrun, Oper.upon_enter];refine (hM.2 w0 E p w hG R ft).mono ?_;rintro e w' ⟨rfl, R'⟩;refine hK _ _ ?_;rw [h.1];exact K _ w' (F.put hi) R'
theorem sw_callWG {f : FuncId} {vs : List Value} {l : List PEv} {G : List Ent → Prop} (hM : WrG b W0 G f vs l) (hG : G E) (F : Fm N L a) (R : WrS b W0 w0 E p w) (ft : Fit p l) {i : Nat} {xs : Array Operand} {ts : Array TypeId} (h : Is o (some i) (.call { callee := .value (.func f), args := xs, argTypes := ts })) (hv : opvs L xs.toList = some vs) (hi : Nat.blt i N = true)
  (K : ∀ a' w', Fm N ((i, .tuple #[]) :: L) a' → WrS b W0 w0 E (p.run l) w' → wpList Tryz.prog ops Q rest a' w') : wpList Tryz.prog ops Q (o :: rest) a w := by
 have e : xs.map a.eval = vs.toArray := by
  rw [← F.evs hv, ← List.map_toArray]
 refine ol_call h.2.2 hM.1 h.2.1 e (hM.2 w0 E p w hG R ft) ?_;rintro e w' ⟨rfl, R'⟩;refine ⟨_, rfl, ?_⟩;rw [h.1];exact K _ w' (F.put hi) R'
end
def sepF (n : Nat) (bs : List (List PEv)) : List PEv := (if (8 : Int) < (n : Int) then farV else []) ++ sepV bs
theorem args_sep (p : PS) (bs : List (List PEv)) : p.run (argsV bs) = p.run (upV ++ tkn [40] ++ sepF bs.length bs ++ (tkn [41] ++ downV)) := by
 have e : (if 8 < bs.length then farV else []) = if (8 : Int) < (bs.length : Int) then farV else ([] : List PEv) := by
  by_cases h : 8 < bs.length
  ·rw [if_pos h, if_pos (by omega)]
  ·rw [if_neg h, if_neg (by omega)]
 have h := far_if ((8 : Int) < (bs.length : Int)) p (upV ++ tkn [40]);unfold argsV sepF;rw [e];simp only [PS.run_app] at h ⊢;rw [h]
theorem wt_args_sep (bs : List (List PEv)) : wtV (upV ++ tkn [40] ++ sepF bs.length bs ++ (tkn [41] ++ downV)) = wtV (argsV bs) := by
 have e : (if 8 < bs.length then farV else []) = if (8 : Int) < (bs.length : Int) then farV else ([] : List PEv) := by
  by_cases h : 8 < bs.length
  ·rw [if_pos h, if_pos (by omega)]
  ·rw [if_neg h, if_neg (by omega)]
 unfold argsV sepF;rw [e];simp only [wtV_app];omega
def TabW (W : World) (g n : Nat) (f : Int → Key) : Prop := ∀ k : Nat, k < n → W.cell? ⟨g, k, none⟩ = some (.string (str (f k)))
def kW (k : Int) : Key := if k = 0 then [] else kindK k
def stW (k : Int) : Key := if k = 1 then [108, 101, 116] else if k = 4 then [105, 102] else if k = 5 then [119, 104, 105, 108, 101] else if k = 6 then [114, 101, 116, 117, 114, 110] else if k = 7 then [110, 101, 101, 100] else if k = 8 then [112, 97, 121] else if k = 9 then [110, 111, 116, 101] else if k = 10 then [97, 115, 107] else []
structure Tabs (W0 : World) : Prop where
 kind : TabW W0 0 4 kW
 step : TabW W0 4 11 stW
 expr : TabW W0 5 27 opWord
 size : 5 < W0.heap.size
theorem TabW.at {W0 w : World} {g n : Nat} {f : Int → Key} (T : TabW W0 g n f) (hg : g < W0.heap.size) (h : Bx W0 () w) {k : Int} (h0 : 0 ≤ k) (hk : k.toNat < n) : w.cell? ⟨g, 0 + k.toNat * 1, none⟩ = some (.string (str (f k))) := by
 rw [Nat.zero_add, Nat.mul_one];have := T k.toNat hk;rw [show ((k.toNat : Nat) : Int) = k by omega] at this;exact (World.cell?_of_block (a := ⟨g, k.toNat, none⟩) (h.block g hg)).trans this
theorem rowx_at {W0 : World} {lo : Nat} {la : Option Addr} {lc : Nat} {es : List (List Fld)} {l : List XT} (hA : (Fld.l la lc es).lies lo W0) (he : pvRows es = l.map XT.pv) (hn : 0 < l.length) : ∃ b o, la = some ⟨b, o, none⟩ ∧ es.length = l.length ∧ ∀ k x, l[k]? = some x → ∃ d, d.length = 4 ∧ pvAll d = x.pv ∧ lieAll lo W0 d ∧ ∀ w, Bx W0 () w → w.rangeAt b (o + k * 4) (d.map Fld.val) := by
 have hlen : es.length = l.length := by rw [← pvRows_len, he, List.length_map]
 have h4 := four_of he;obtain ⟨b, o, d0, rfl, _⟩ := el_at hA h4 (k := 0) (by omega);refine ⟨b, o, rfl, hlen, fun k x hx => ?_⟩;have hk : k < es.length := by have := (List.getElem?_eq_some_iff.1 hx).1; omega
 obtain ⟨b', o', d, q, hd, hr, hl, _⟩ := el_at hA h4 hk;injection q with q
 injection q with q1 q2
 subst q1 q2;refine ⟨d, h4 d (List.mem_of_getElem? hd), ?_, hl, hr⟩;have e : (pvRows es)[k]? = (l.map XT.pv)[k]? := by rw [he]
 rw [pvRows_map, List.getElem?_map, List.getElem?_map, hd, hx] at e;injection e with e
theorem WrS.aft {b : Nat} {W0 w0 : World} {E : List Ent} {p : PS} {w w1 : World} (R : WrS b W0 w0 E p w) (h : Below w.heap.size w w1) : WrS b W0 w0 E p w1 := by
 obtain ⟨la, lc, t, M, ht⟩ := R;exact ⟨la, lc, t, M.after2 h, ht⟩
theorem WrS.drew {b : Nat} {W0 w0 : World} {E : List Ent} {p : PS} {w : World} (R : WrS b W0 w0 E p w) : WrS b W0 w0 E p w.drew := by
 obtain ⟨la, lc, t, M, ht⟩ := R;exact ⟨la, lc, t, M.drew, ht⟩
theorem WrS.cell {b : Nat} {W0 w0 : World} {E : List Ent} {p : PS} {w : World} (R : WrS b W0 w0 E p w) (k : Nat) {x n : Nat} {cs : List Value} {t : TypeId} {v : Value} (hk : E[k]? = some (.box x cs t)) (hc : cs[n]? = some v) : w.cell? ⟨x, n, none⟩ = some v := by
 obtain ⟨la, lc, t, M, ht⟩ := R;exact M.cell (k + 2) hk hc
theorem run_garr {P : Program} {a : Act} {o : Oper} {N : Nat} {L : List (Nat × Value)} (F : Fm N L a) (w : World) (sz : Nat) {g n k e t : Nat} {y : Operand} (h : o.op = .indexAddr t (.global g) y) (hy : opv L y = some (.int .i64 (k : Int))) (hk : k < n) (hu : P.underlying t = some (.array n e)) (hs : (P.info? e).map (·.size) = some sz) : (execOp a.eval o).run P w = .ok (.value (.pointer (some ⟨g, 0 + k * sz, none⟩))) w := by
 have hx : a.eval (.global g) = .pointer (some ⟨g, 0, none⟩) := F.ev (x := .global g) rfl;unfold execOp;rw [h];simp only [hx, F.ev hy]
 cases hq : P.info? e with
 | none => rw [hq] at hs; cases hs
 | some ii =>
  have hz : ii.size = sz := by rw [hq] at hs; simpa using hs
  simp [Instr.indexAt, run_underlying hu, asIntOf, sizeOf, typeInfo, hq, hz, hk, Addr.add, asAddr, Instr.sureAddr];intro q;first | omega | (rw [q]) | simp [q]
theorem sd_garr {P : Program} {ops : Array Oper} {Q : Exit → Act → World → Prop} {a : Act} {w : World} {o : Oper} {N : Nat} {L : List (Nat × Value)} {md : Region.Mode} {S : World → Prop} {fuel : Nat} {listed : Array Bool} (F : Fm N L a) (j sz : Nat) {i g n k e t : Nat} {y : Operand} (hj : ops[j]? = some o) (h : Is o (some i) (.indexAddr t (.global g) y)) (hy : opv L y = some (.int .i64 (k : Int))) (hk : k < n) (hu : P.underlying t = some (.array n e)) (hz : (P.info? e).map (·.size) = some sz) (hs : Region.noSelect ops = true) (hf : Region.free md ops listed j = true) (hr : (Region.ready md ops listed).contains j = true) (hQ : ∀ c a w, Q (.panic c) (a.put (some i) (.pointer (some ⟨g, 0 + k * sz, none⟩))) w → Q (.panic c) a w)
  (hb : Nat.blt i N = true) (hS : S w) (K : ∀ a', Fm N ((i, .pointer (some ⟨g, 0 + k * sz, none⟩)) :: L) a' → wpAnyH P md ops Q S fuel (listed.setIfInBounds j true) a' w) : wpAnyH P md ops Q S (fuel + 1) listed a w :=
 sd_val F j hj hs hf hr hQ h.1 h.2.2 hb (fun w _ => run_garr F w sz h.2.1 hy hk hu hz) hS K
section
variable {ops : Array Oper} {Q : Exit → Act → World → Prop} {a : Act} {w w' w0 W0 : World} {rest : List Oper} {o o1 o2 : Oper} {N : Nat} {L : List (Nat × Value)} {E : List Ent} {b : Nat} {p : PS}
theorem sw_boxR (F : Fm N L a) (R : WrS b W0 w0 E p w) {i : Nat} {t : TypeId} {x : Operand} (cs : List Value) {v : Value} (h : Is o (some i) (.box t x)) (hv : opv L x = some v) (hc : v.cells = cs.toArray) (hi : Nat.blt i N = true) (K : ∀ x a' w', Fm N ((i, ptr x) :: L) a' → WrS b W0 w0 (.box x cs t :: E) p w' → wpList Tryz.prog ops Q rest a' w') : wpList Tryz.prog ops Q (o :: rest) a w := by
 obtain ⟨la, lc, t, M, ht⟩ := R;exact sw_box F M cs h hv hc hi fun x a' w' F' M' => K x a' w' F' (WrS.mk3 M' ht)
theorem sw_allocR (F : Fm N L a) (R : WrS b W0 w0 E p w) {i : Nat} {t : TypeId} (cs : List Value) (h : Is o (some i) (.alloc t)) (hz : (Tryz.prog.info? t).map (fun i => i.zero.map (·.cells)) = some (some cs.toArray)) (hi : Nat.blt i N = true) (K : ∀ x a' w', Fm N ((i, ptr x) :: L) a' → WrS b W0 w0 (.box x cs t :: E) p w' → wpList Tryz.prog ops Q rest a' w') : wpList Tryz.prog ops Q (o :: rest) a w := by
 obtain ⟨la, lc, t, M, ht⟩ := R;exact sw_alloc F M cs h hz hi fun x a' w' F' M' => K x a' w' F' (WrS.mk3 M' ht)
theorem sw_rowR (F : Fm N L a) (R : WrS b W0 w0 E p w) (toks : List Key) {i1 n : Nat} {ps : Array (Nat × Operand)} (h1 : Is o1 (some i1) (.buildSlice 92 n ps)) (hv : opvs L (ps.toList.map (·.2)) = some (toks.map fun s => .string (str s))) (hn : toks.length = n) (hn2 : (Nat.blt 0 n && Nat.ble n 1000) = true) (hf : Instr.fill (fun i => some (i * 1, 1)) ((Array.range (n * 1)).map ((Value.string ⟨#[]⟩).cells[· % (Value.string ⟨#[]⟩).cells.size]!)) ((ps.toList.map (·.1)).zip (toks.map fun s => .string (str s))) = some (flatV (toks.map fun s => [Fld.s s])).toArray) (hN : Nat.blt i1 N = true)
  (K : ∀ x a' w', Fm N ((i1, .slice (some ⟨x, 0, none⟩) n n) :: L) a' → WrS b W0 w0 (.row (.slice (some ⟨x, 0, none⟩) n n) 9 1 (toks.map fun s => [.s s]) :: E) p w' → wpList Tryz.prog ops Q rest a' w') : wpList Tryz.prog ops Q (o1 :: rest) a w := by
 obtain ⟨la, lc, t, M, ht⟩ := R;refine sw_mkrow (ety := 9) (sz := 1) (z := .string ⟨#[]⟩) F M _ (toks.map fun s => [.s s]) h1 hv Tryz.underlying92 (by kernel_rfl) (by rw [Nat.mul_one]; exact hn2) hf (by rw [List.length_map, hn]) ?_ ?_ hN fun x A w F M => K x A w F (WrS.mk3 M ht)
 ·intro g hg;obtain ⟨s, _, rfl⟩ := List.mem_map.1 hg;exact ⟨rfl, lie_cons trivial (lie_nil _ _)⟩
 ·intro i f b hf hm g hg;obtain ⟨s, _, rfl⟩ := List.mem_map.1 hg;intro y hy;rw [List.mem_singleton.1 hy];trivial
theorem sw_sayR (F : Fm N L a) (toks : List Key) {x n : Nat} (R : WrS b W0 w0 (.row (.slice (some ⟨x, 0, none⟩) n n) 9 1 (toks.map fun s => [.s s]) :: E) p w) (ft : Fit p (toks.map .tok)) {i2 : Nat} {xs : Array Operand} {ts : Array TypeId} (h2 : Is o2 (some i2) (.call { callee := .value (.func 30), args := xs, argTypes := ts })) (hv : opvs L xs.toList = some [ptr b, .slice (some ⟨x, 0, none⟩) n n]) (hn : toks.length = n) (hn9 : n ≤ 1000) (hN : Nat.blt i2 N = true)
  (K : ∀ a' w', Fm N ((i2, .tuple #[]) :: L) a' → WrS b W0 w0 E (p.run (toks.map .tok)) w' → wpList Tryz.prog ops Q rest a' w') : wpList Tryz.prog ops Q (o2 :: rest) a w := by
 have hs := say_m b W0 toks x n hn hn9;refine sw_callR hs.1 (hs.2 w0 _ p w R ft) F h2 hv hN ?_;rintro e w' ⟨rfl, R'⟩;exact ⟨_, rfl, fun A F => K A w' F R'.tl⟩
theorem sw_setAllR (F : Fm N L a) (R : WrS b W0 w0 E p w) (k : Nat) {t : TypeId} {x y : Operand} {c : Nat} {cs us : List Value} {ty : TypeId} (h : Is o none (.store t x y)) (hx : opv L x = some (.pointer (some ⟨c, 0, none⟩))) (hy : opv L y = some (.agg us.toArray)) (hk : E[k]? = some (.box c cs ty)) (hz : (Tryz.prog.info? t).map (·.size) = some us.length) (hl : us.length = cs.length) (h1 : (us.all fun u => u.oneCell') = true) (K : ∀ w', WrS b W0 w0 (E.set k (.box c us ty)) p w' → wpList Tryz.prog ops Q rest a w') : wpList Tryz.prog ops Q (o :: rest) a w := by
 obtain ⟨la, lc, t, M, ht⟩ := R;exact sw_setAll F M (k + 2) h hx hy hk hz hl h1 fun w' M' => K w' ⟨la, lc, t, M', ht⟩
theorem fldv_one (d : List Fld) : ((d.map Fld.val).all fun u => u.oneCell') = true := by
 rw [List.all_eq_true];intro u hu;obtain ⟨f, _, rfl⟩ := List.mem_map.1 hu;cases f <;> rfl
end
end Go.Proofs.YtpofgnlkhkednaaGreatDoor
