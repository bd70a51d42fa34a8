import Derived.Test.YtpofgnlkhkednaaGreatDoorM31
namespace Go.Proofs.YtpofgnlkhkednaaGreatDoor
open Go.RowKit
set_option linter.unusedVariables false
set_option linter.unusedSimpArgs false
set_option maxRecDepth 20000
set_option maxHeartbeats 8000000
theorem row_tree2 {es : List (List Fld)} {l : List ST} (he : pvRows es = l.map ST.pv) {k : Nat} {d : List Fld} (hd : es[k]? = some d) : ∃ x, x ∈ l ∧ pvAll d = x.pv ∧ (l.map ST.evs)[k]? = some x.evs := by
 have e : (pvRows es)[k]? = (l.map ST.pv)[k]? := by rw [he]
 rw [pvRows_map, List.getElem?_map, List.getElem?_map, hd] at e
 cases hx : l[k]? with
 | none => rw [hx] at e; cases e
 | some x =>
  rw [hx] at e;injection e with e
  exact ⟨x, List.mem_of_getElem? hx, e, by rw [List.getElem?_map, hx]; rfl⟩
theorem eight_of {es : List (List Fld)} {l : List ST} (he : pvRows es = l.map ST.pv) : ∀ d ∈ es, d.length = 8 := sz_of (n := 8) fun x hx => by
 rw [he] at hx;obtain ⟨y, _, rfl⟩ := List.mem_map.1 hx;cases y;rfl
theorem flat_take {l : List (List PEv)} {k : Nat} {b : List PEv} (h : l[k]? = some b) : (l.take (k + 1)).flatten = (l.take k).flatten ++ b := by
 rw [List.take_add_one, h];simp
theorem flat_fit {p : PS} {l : List (List PEv)} {k : Nat} {b : List PEv} (h : Fit p l.flatten) (hb : l[k]? = some b) : Fit (p.run (l.take k).flatten) b := by
 have e : l.flatten = (l.take k).flatten ++ (b ++ (l.drop (k + 1)).flatten) := by
  rw [← List.append_assoc, ← flat_take hb, ← List.flatten_append, List.take_append_drop]
 rw [e] at h;exact h.r.l
section
variable {P : Program} {ops : Array Oper} {Q : Exit → Act → World → Prop} {a : Act} {w : World} {rest : List Oper} {o : Oper} {N : Nat} {L : List (Nat × Value)} {i t u : Nat} {x y : Operand}
theorem sw_rowslice (F : Fm N L a) {la : Option Addr} {lc n k sz e : Nat} {lo : Operand} (h : Is o (some i) (.slice t x (some lo) none none)) (h1 : opv L x = some (.slice la n lc)) (h2 : opv L lo = some (.int .i64 (k : Int))) (hk : k ≤ n) (hu : P.underlying t = some (.slice e)) (hz : (P.info? e).map (·.size) = some sz) (hi : Nat.blt i N = true) (K : ∀ a', Fm N ((i, .slice (if lc = k then la else la.map (·.add (k * sz))) (n - k) (lc - k)) :: L) a' → wpList P ops Q rest a' w) : wpList P ops Q (o :: rest) a w :=
 sw_val F h.1 h.2.2 hi (by
  unfold execOp; rw [h.2.1]
  cases hq : P.info? e with
  | none => rw [hq] at hz; cases hz
  | some ii =>
   rw [hq] at hz;have hz : ii.size = sz := by injection hz
   simp [F.ev h1, F.ev h2, Instr.sliceAt, Instr.slice, Instr.sliceBounds, Instr.sliceBound, asIntOf, run_underlying hu, hk, sizeOf, typeInfo, hq, hz]) K
end
theorem rows_drop {lo sz : Nat} {w : World} {rb : Nat} : ∀ (es : List (List Fld)) (ro k : Nat), (∀ d ∈ es, d.length = sz) → rowsLie lo w rb ro es → rowsLie lo w rb (ro + k * sz) (es.drop k)
 | es, ro, 0, _, h => by simpa using h
 | [], ro, k + 1, _, _ => trivial
 | e :: es, ro, k + 1, hl, h => by
  have := rows_drop es (ro + e.length) k (fun d hd => hl d (List.mem_cons_of_mem _ hd)) h.2;rw [hl e (List.mem_cons_self ..)] at this;rw [Nat.succ_mul, show ro + (k * sz + sz) = ro + sz + k * sz by omega];exact this
theorem lies_drop {lo sz lc k : Nat} {w : World} {la : Option Addr} {es : List (List Fld)} (h : (Fld.l la lc es).lies lo w) (hl : ∀ d ∈ es, d.length = sz) (hk : k ≤ es.length) : (Fld.l (if lc = k then la else la.map (·.add (k * sz))) (lc - k) (es.drop k)).lies lo w := by
 obtain ⟨h1, h2, h3⟩ := h;refine ⟨by rw [List.length_drop]; omega, by omega, ?_⟩;rcases h3 with rfl | ⟨rb, ro, rfl, q1, q2, q3⟩
 ·exact .inl (by simp)
 ·rcases Nat.eq_or_lt_of_le hk with e | e
  ·exact .inl (by rw [e, List.drop_length])
  ·exact .inr ⟨rb, ro + k * sz, by rw [if_neg (by omega)]; simp [Addr.add], q1, q2, rows_drop es ro k hl q3⟩
theorem drop_rows (l : List (List Fld)) (k : Nat) : pvRows (l.drop k) = (pvRows l).drop k := by rw [pvRows_map, pvRows_map, List.map_drop]
theorem inv_ct {fs : List Fld} {s : Key} {l m r : List EV} (h : pvAll fs = ctP s (l, m, r)) : ∃ sa sc se ta tc te fa fc fe, fs = [.s s, .l sa sc se, .l ta tc te, .l fa fc fe] ∧ pvRows se = l ∧ pvRows te = m ∧ pvRows fe = r := by
 obtain ⟨f1, g1, rfl, h1, h⟩ := pv_cons h;obtain ⟨f2, g2, rfl, h2, h⟩ := pv_cons h;obtain ⟨f3, g3, rfl, h3, h⟩ := pv_cons h;obtain ⟨f4, g4, rfl, h4, h⟩ := pv_cons h;obtain ⟨pa, pc, p, q1, q2⟩ := pv_l h2;obtain ⟨ba, bc, l, q3, q4⟩ := pv_l h3;obtain ⟨ca, cc, c, q5, q6⟩ := pv_l h4;exact ⟨pa, pc, p, ba, bc, l, ca, cc, c, by rw [pv_s h1, q1, q3, q5, pv_nil h], q2, q4, q6⟩
theorem sz_any {α : Type} {pv : α → EV} {es : List (List Fld)} {l : List α} {n : Nat} (he : pvRows es = l.map pv) (h : ∀ x, (pv x).length = n) : ∀ d ∈ es, d.length = n := sz_of (n := n) fun x hx => by
 rw [he] at hx;obtain ⟨y, _, rfl⟩ := List.mem_map.1 hx;exact h y
theorem end_odd {p : PS} (h : p.od = true) : endP p = ([], 2) := by rw [endP, if_pos h]
theorem end_fr {p : PS} (h : p.od = false) (f : p.fr = true) : endP p = ([], 3) := by rw [endP, if_neg (by rw [h]; decide), f]; rfl
theorem end_len {p : PS} (h : p.od = false) (f : p.fr = false) (n : decide ((2048 : Int) < (p.tx.length : Int)) = true) : endP p = ([], 3) := by
 have := of_decide_eq_true n;rw [endP, if_neg (by rw [h]; decide), f, decide_eq_true (by omega)]; rfl
theorem end_mx {p : PS} (h : p.od = false) (f : p.fr = false) (n : decide ((2048 : Int) < (p.tx.length : Int)) = false) (m : decide (32 < p.mx) = true) : endP p = ([], 7) := by
 have := of_decide_eq_false n;rw [endP, if_neg (by rw [h]; decide), f, decide_eq_false (by omega), if_neg (by decide), if_pos (of_decide_eq_true m)]
theorem endk_ok {p : PS} (h : p.od = false) (f : p.fr = false) (n : decide ((2048 : Int) < (p.tx.length : Int)) = false) (m : decide (32 < p.mx) = false) : endP p = (p.tx, 0) := by
 have := of_decide_eq_false n;rw [endP, if_neg (by rw [h]; decide), f, decide_eq_false (by omega), if_neg (by decide), if_neg (of_decide_eq_false m)]
theorem ret_end {x : Key × Int} {k : Key} {c : Int} (h : x = (k, c)) : Ending.returned (.tuple #[.string (str k), .int .i64 c]) = .returned (.tuple #[.string (str x.1), .int .i64 x.2]) := by rw [h]
section
variable {ops : Array Oper} {Q : Exit → Act → World → Prop} {P : Program} {a : Act} {w : World} {N : Nat} {L : List (Nat × Value)}
theorem sw_retT2 (F : Fm N L a) {fn : Func} {i j : Nat} {v1 v2 : Value} {R : Ending → World → Prop} (hres : fn.results = #[.tmp i, .tmp j]) (h1 : lk i L = some v1) (h2 : lk j L = some v2) (hR : R (.returned (.tuple #[v1, v2])) w) : bodyPost P fn R .ret a w := by
 have at_ : ∀ q u, lk q L = some u → a.tmps[q]?.getD undef = u := fun q u hq => by
  have := F.2.2 q _ hq;unfold Act.eval at this;rw [← Array.getD_eq_getD_getElem?];exact this
 refine bodyPost_ret (v := .tuple #[v1, v2]) ?_ F.2.1 hR;simp [results, hres, at_ i _ h1, at_ j _ h2]
end
theorem span_all (f : UInt8 → Bool) : ∀ s : Key, (spanN f s = s.length) ↔ s.all f = true
 | [] => by simp [spanN]
 | c :: r => by
  have h := span_all f r;have e : spanN f (c :: r) = if f c then spanN f r + 1 else 0 := rfl
  rw [e, List.all_cons]
  cases f c with
  | true => simp [h]
  | false => simp
theorem pnm_long {s : Key} (h : ¬ (s.length : Int) ≤ 16) : Value.bool false = .bool (nmB s) := by
 unfold nmB;rw [decide_eq_false (by omega)];simp
theorem nm_eq {c : UInt8} {s : Key} (h : s[0]? = some c) : nmB s = (decide (s.length ≤ 16) && isL c && decide (spanN goes s = s.length) && !wordL.contains s) := by
 cases s with
 | nil => cases h
 | cons d r =>
  injection h with h
  subst h
  have e : decide (spanN goes (d :: r) = (d :: r).length) = (d :: r).all goes := by
   rw [Bool.eq_iff_iff, decide_eq_true_eq];exact span_all goes (d :: r)
  rw [e];unfold nmB;rfl
theorem isname_m (w0 : World) (s : Key) : Meth Tryz.prog (Bx w0) (fun _ => False) 22 [.string (str s)] () (fun v _ _ => v = .bool (nmB s)) := by
 obtain ⟨c, hc⟩ : ∃ c : UInt8, s ≠ [] → s[0]? = some c := by
  cases s with
  | nil => exact ⟨0, fun h => absurd rfl h⟩
  | cons c r => exact ⟨c, fun _ => rfl⟩
 refine ⟨by kernel_rfl, fun wO R _ => ?_⟩;have M := bx_begin R;refine sw_fn Tryz.func22 rfl 27 Tryz.ntmps22 rfl fun A F => ?_;refine sq (rg ?_);refine as1 F fun A F=>?_;refine en (sq (rg ?_));refine mv F fun A F=>?_;refine sw_sne F ⟨rfl, rfl, rfl⟩ rfl rfl rfl fun A F => ?_;refine mv F fun A F=>?_
 cases c1 : (!(s == [])) with
 | true =>
  rw [c1] at F;have hne : s ≠ [] := by simpa using c1
  refine on' F 2 ?_;refine mv F fun A F=>?_;refine on' F 2 ?_;refine sw_slen F ⟨rfl, rfl, rfl⟩ rfl Tryz.underlying9 rfl fun A F => ?_;refine on' F 2 ?_;refine sw_leq F ⟨rfl, rfl, rfl⟩ rfl rfl rfl fun A F => ?_;refine pkT F fun A F=>?_;refine mv F fun A F=>?_
  cases c2 : (decide ((s.length : Int) ≤ 16)) with
  | true =>
   rw [c2] at F;have h16 := of_decide_eq_true c2;refine on' F 7 ?_;refine mv F fun A F=>?_;refine on' F 7 ?_;refine sw_index (j := 0) (c := c) F ⟨rfl, rfl, rfl⟩ rfl rfl (hc hne) Tryz.underlying9 rfl fun A F => ?_;refine on' F 7 ?_;refine sw_callR (by kernel_rfl) (letter_any c _) F ⟨rfl, rfl, rfl⟩ rfl rfl ?_;rintro e w1 ⟨rfl, rfl⟩;refine ⟨_, rfl, fun A F => ?_⟩;refine pkT F fun A F=>?_;refine mv F fun A F=>?_
   cases c3 : (isL c) with
   | true =>
    rw [c3] at F;refine on' F 12 ?_;refine mv F fun A F=>?_;refine on' F 12 ?_;refine sw_callR (by kernel_rfl) (span_goes s _ (by omega)) F ⟨rfl, rfl, rfl⟩ rfl rfl ?_;rintro e w1 ⟨rfl, hb1⟩;refine ⟨_, rfl, fun A F => ?_⟩;replace M := M.after2 hb1;refine on' F 12 ?_;refine mv F fun A F=>?_;refine on' F 12 ?_;refine sw_slen F ⟨rfl, rfl, rfl⟩ rfl Tryz.underlying9 rfl fun A F => ?_;refine on' F 12 ?_;refine eqi F fun A F=>?_;refine pkT F fun A F=>?_;refine mv F fun A F=>?_
    cases c4 : ((spanN goes s : Int) == (s.length : Int)) with
    | true =>
     rw [c4] at F;refine on' F 19 ?_;refine mv F fun A F=>?_;refine on' F 19 ?_;refine sw_callR (by kernel_rfl) (isWord_any s _) F ⟨rfl, rfl, rfl⟩ rfl rfl ?_;rintro e w1 ⟨rfl, rfl⟩;refine ⟨_, rfl, fun A F => ?_⟩;refine on' F 19 ?_;refine sw_not F ⟨rfl, rfl, rfl⟩ rfl rfl fun A F => ?_;refine pkT F fun A F=>?_;refine as1 F fun A F=>?_;refine en (wp_ret ?_);repeat first|refine tr ?_|refine br ?_
     exact sw_rettmp F Tryz.results22 rfl (ze M (by rw [nm_eq (hc hne), c3, show decide (spanN goes s = s.length) = true by rw [← c4, int_beq], decide_eq_true (show s.length ≤ 16 by omega)]; rfl))
    | false =>
     rw [c4] at F;refine off3 F 19 19 19 fun A F=>?_;refine pkF F fun A F=>?_;refine as1 F fun A F=>?_;refine en (wp_ret ?_);repeat first|refine tr ?_|refine br ?_
     exact sw_rettmp F Tryz.results22 rfl (ze M (by rw [nm_eq (hc hne), show decide (spanN goes s = s.length) = false by rw [← c4, int_beq], Bool.and_false, Bool.false_and]))
   | false =>
    rw [c3] at F;refine off4 F 12 12 12 12 fun A F=>?_;refine off F 12 fun A F=>?_;refine pkF F fun A F=>?_;refine mv F fun A F=>?_;refine off3 F 19 19 19 fun A F=>?_;refine pkF F fun A F=>?_;refine as1 F fun A F=>?_;refine en (wp_ret ?_);repeat first|refine tr ?_|refine br ?_
    exact sw_rettmp F Tryz.results22 rfl (ze M (by rw [nm_eq (hc hne), c3, Bool.and_false, Bool.false_and, Bool.false_and]))
  | false =>
   rw [c2] at F;have h16 := of_decide_eq_false c2;refine off3 F 7 7 7 fun A F=>?_;refine pkF F fun A F=>?_;refine mv F fun A F=>?_;refine off4 F 12 12 12 12 fun A F=>?_;refine off F 12 fun A F=>?_;refine pkF F fun A F=>?_;refine mv F fun A F=>?_;refine off3 F 19 19 19 fun A F=>?_;refine pkF F fun A F=>?_;refine as1 F fun A F=>?_;refine en (wp_ret ?_);repeat first|refine tr ?_|refine br ?_
   exact sw_rettmp F Tryz.results22 rfl (ze M (by exact pnm_long h16))
 | false =>
  rw [c1] at F;have hne : s = [] := by simpa using c1
  refine off3 F 2 2 2 fun A F=>?_;refine pkF F fun A F=>?_;refine mv F fun A F=>?_;refine off3 F 7 7 7 fun A F=>?_;refine pkF F fun A F=>?_;refine mv F fun A F=>?_;refine off4 F 12 12 12 12 fun A F=>?_;refine off F 12 fun A F=>?_;refine pkF F fun A F=>?_;refine mv F fun A F=>?_;refine off3 F 19 19 19 fun A F=>?_;refine pkF F fun A F=>?_;refine as1 F fun A F=>?_;refine en (wp_ret ?_);repeat first|refine tr ?_|refine br ?_
  exact sw_rettmp F Tryz.results22 rfl (ze M (by rw [hne]; rfl))
theorem iskind_m (w0 : World) (k : Int) : Meth Tryz.prog (Bx w0) (fun _ => False) 48 [.int .i64 k] () (fun v _ _ => v = .bool (decide (1 ≤ k ∧ k ≤ 3))) := by
 refine ⟨by kernel_rfl, fun wO R _ => ?_⟩;have M := bx_begin R;refine sw_fn Tryz.func48 rfl 9 Tryz.ntmps48 rfl fun A F => ?_;refine sq (rg ?_);refine as1 F fun A F=>?_;refine en (sq (rg ?_));refine mv F fun A F=>?_;refine sw_geq F ⟨rfl, rfl, rfl⟩ rfl rfl rfl fun A F => ?_;refine mv F fun A F=>?_
 cases c1 : (decide (1 ≤ k)) with
 | true =>
  rw [c1] at F;refine on' F 2 ?_;refine mv F fun A F=>?_;refine on' F 2 ?_;refine sw_leq F ⟨rfl, rfl, rfl⟩ rfl rfl rfl fun A F => ?_;refine pkT F fun A F=>?_;refine as1 F fun A F=>?_;refine en (wp_ret ?_);repeat first|refine tr ?_|refine br ?_
  exact sw_rettmp F Tryz.results48 rfl (ze M (by rw [Bool.eq_iff_iff.2 (show decide (k ≤ 3) = true ↔ decide (1 ≤ k ∧ k ≤ 3) = true by have := of_decide_eq_true c1; simp only [decide_eq_true_eq]; omega)]))
 | false =>
  rw [c1] at F;refine off2 F 2 2 fun A F=>?_;refine pkF F fun A F=>?_;refine as1 F fun A F=>?_;refine en (wp_ret ?_);repeat first|refine tr ?_|refine br ?_
  exact sw_rettmp F Tryz.results48 rfl (ze M (by rw [decide_eq_false (show ¬ (1 ≤ k ∧ k ≤ 3) by have := of_decide_eq_false c1; omega)]))
theorem nameif_m (w0 : World) (b : Bool) (s : Key) : Meth Tryz.prog (Bx w0) (fun _ => False) 58 [.bool b, .string (str s)] () (fun v _ _ => v = .bool (nmIf b s)) := by
 refine ⟨by kernel_rfl, fun wO R _ => ?_⟩;have M := bx_begin R;refine sw_fn Tryz.func58 rfl 10 Tryz.ntmps58 rfl fun A F => ?_;refine sq (rg ?_);refine as1 F fun A F=>?_;refine en (sq (sq (rg ?_)));refine mv F fun A F=>?_;refine en (cd F (fun hc1=>?_) fun hc1=>?_)
 ·refine sq (rg ?_);refine mv F fun A F=>?_;refine sw_callR (by kernel_rfl) ((isname_m _ s).2 _ (Below.refl _ _) (fun _ q => q.elim)) F ⟨rfl, rfl, rfl⟩ rfl rfl ?_;rintro e w1 ⟨v, fs, s', rfl, _, hb1, _, rfl⟩;refine ⟨_, rfl, fun A F => ?_⟩;replace M := M.after2 hb1;refine as1 F fun A F=>?_;refine en (wp_ret ?_);repeat first|refine tr ?_|refine br ?_
  exact sw_rettmp F Tryz.results58 rfl (ze M (by subst hc1; rfl))
 refine wp_skip (sq (rg ?_));refine mv F fun A F=>?_;refine sw_seq2 F ⟨rfl, rfl, rfl⟩ rfl rfl rfl fun A F => ?_;refine as1 F fun A F=>?_;refine en (wp_ret ?_);repeat first|refine tr ?_|refine br ?_
 exact sw_rettmp F Tryz.results58 rfl (ze M (by subst hc1; rfl))
theorem kindif_m (w0 : World) (b : Bool) (k : Int) : Meth Tryz.prog (Bx w0) (fun _ => False) 59 [.bool b, .int .i64 k] () (fun v _ _ => v = .bool (kdIf b k)) := by
 refine ⟨by kernel_rfl, fun wO R _ => ?_⟩;have M := bx_begin R;refine sw_fn Tryz.func59 rfl 10 Tryz.ntmps59 rfl fun A F => ?_;refine sq (rg ?_);refine as1 F fun A F=>?_;refine en (sq (sq (rg ?_)));refine mv F fun A F=>?_;refine en (cd F (fun hc1=>?_) fun hc1=>?_)
 ·refine sq (rg ?_);refine mv F fun A F=>?_;refine sw_callR (by kernel_rfl) ((iskind_m _ k).2 _ (Below.refl _ _) (fun _ q => q.elim)) F ⟨rfl, rfl, rfl⟩ rfl rfl ?_;rintro e w1 ⟨v, fs, s', rfl, _, hb1, _, rfl⟩;refine ⟨_, rfl, fun A F => ?_⟩;replace M := M.after2 hb1;refine as1 F fun A F=>?_;refine en (wp_ret ?_);repeat first|refine tr ?_|refine br ?_
  exact sw_rettmp F Tryz.results59 rfl (ze M (by subst hc1; rfl))
 refine wp_skip (sq (rg ?_));refine mv F fun A F=>?_;refine eqi F fun A F=>?_;refine as1 F fun A F=>?_;refine en (wp_ret ?_);repeat first|refine tr ?_|refine br ?_
 exact sw_rettmp F Tryz.results59 rfl (ze M (by subst hc1; rfl))
theorem of_beq {a b : Int} (h : (a == b) = true) : a = b := by simpa using h
theorem mostof_m (w0 : World) (op : Int) : Meth Tryz.prog (Bx w0) (fun _ => False) 69 [.int .i64 op] () (fun v _ _ => v = .int .i64 (mostI op)) := by
 refine ⟨by kernel_rfl, fun wO R _ => ?_⟩;have M := bx_begin R;refine sw_fn Tryz.func69 rfl 8 Tryz.ntmps69 rfl fun A F => ?_;refine sq (rg ?_);refine as1 F fun A F=>?_;refine en (sq (sq (rg ?_)));refine mv F fun A F=>?_;refine en (wp_block ?_);refine sq (rg ?_);refine eqi F fun A F=>?_;refine as1 F fun A F=>?_;refine en (cd F (fun hc1=>?_) fun hc1=>?_)
 ·refine sq (rg ?_);refine as1 F fun A F=>?_;refine en (wp_ret ?_);repeat first|refine tr ?_|refine br ?_
  exact sw_rettmp F Tryz.results69 rfl (ze M (by have q := of_beq hc1; subst q; rfl))
 refine sq (rg ?_);refine eqi F fun A F=>?_;refine as1 F fun A F=>?_;refine en (cd F (fun hc2=>?_) fun hc2=>?_)
 ·refine sq (rg ?_);refine as1 F fun A F=>?_;refine en (wp_ret ?_);repeat first|refine tr ?_|refine br ?_
  exact sw_rettmp F Tryz.results69 rfl (ze M (by have q := of_beq hc2; subst q; rfl))
 refine wp_skip (sq (rg ?_));refine as1 F fun A F=>?_;refine en (wp_ret ?_);repeat first|refine tr ?_|refine br ?_
 exact sw_rettmp F Tryz.results69 rfl (ze M (by unfold mostI; rw [if_neg (by simpa using hc1), if_neg (by simpa using hc2)]))
theorem fmp_m (w0 : World) (x : Key × Int) : Meth Tryz.prog (Bx w0) (fun _ => False) 24 [.agg #[.string (str x.1), .int .i64 x.2]] () (fun v _ _ => v = .bool (paF x)) := by
 refine ⟨by kernel_rfl, fun wO R _ => ?_⟩;have M := bx_begin R;refine sw_fn Tryz.func24 rfl 11 Tryz.ntmps24 rfl fun A F => ?_;refine sq (rg ?_);refine sw_box F M [.string (str x.1), .int .i64 x.2] ⟨rfl, rfl, rfl⟩ rfl rfl rfl fun x1 A w F M => ?_;refine as1 F fun A F=>?_;refine en (sq (rg ?_));refine fl F 0 fun A F=>?_;refine ce F M 0 fun A F=>?_;refine sw_callR (by kernel_rfl) ((isname_m _ x.1).2 _ (Below.refl _ _) (fun _ q => q.elim)) F ⟨rfl, rfl, rfl⟩ rfl rfl ?_;rintro e w1 ⟨v, fs, s', rfl, _, hb1, _, rfl⟩;refine ⟨_, rfl, fun A F => ?_⟩;replace M := M.after2 hb1;refine mv F fun A F=>?_
 cases c2 : (nmB x.1) with
 | true =>
  rw [c2] at F;refine on' F 3 ?_;refine fl F 1 fun A F=>?_;refine on' F 3 ?_;refine ce F M 0 fun A F=>?_;refine on' F 3 ?_;refine sw_callR (by kernel_rfl) ((iskind_m _ x.2).2 _ (Below.refl _ _) (fun _ q => q.elim)) F ⟨rfl, rfl, rfl⟩ rfl rfl ?_;rintro e w1 ⟨v, fs, s', rfl, _, hb1, _, rfl⟩;refine ⟨_, rfl, fun A F => ?_⟩;replace M := M.after2 hb1;refine pkT F fun A F=>?_;refine as1 F fun A F=>?_;refine en (wp_ret ?_);repeat first|refine tr ?_|refine br ?_
  exact sw_rettmp F Tryz.results24 rfl (ze M (by unfold paF; rw [c2]; rfl))
 | false =>
  rw [c2] at F;refine off3 F 3 3 3 fun A F=>?_;refine pkF F fun A F=>?_;refine as1 F fun A F=>?_;refine en (wp_ret ?_);repeat first|refine tr ?_|refine br ?_
  exact sw_rettmp F Tryz.results24 rfl (ze M (by unfold paF; rw [c2]; rfl))
theorem fmt_m (w0 : World) (x : Key × Int × Int) : Meth Tryz.prog (Bx w0) (fun _ => False) 26 [.agg #[.string (str x.1), .int .i64 x.2.1, .int .i64 x.2.2]] () (fun v _ _ => v = .bool (taF x)) := by
 refine ⟨by kernel_rfl, fun wO R _ => ?_⟩;have M := bx_begin R;refine sw_fn Tryz.func26 rfl 16 Tryz.ntmps26 rfl fun A F => ?_;refine sq (rg ?_);refine sw_box F M [.string (str x.1), .int .i64 x.2.1, .int .i64 x.2.2] ⟨rfl, rfl, rfl⟩ rfl rfl rfl fun x1 A w F M => ?_;refine as1 F fun A F=>?_;refine en (sq (rg ?_));refine fl F 0 fun A F=>?_;refine ce F M 0 fun A F=>?_;refine sw_callR (by kernel_rfl) ((isname_m _ x.1).2 _ (Below.refl _ _) (fun _ q => q.elim)) F ⟨rfl, rfl, rfl⟩ rfl rfl ?_;rintro e w1 ⟨v, fs, s', rfl, _, hb1, _, rfl⟩;refine ⟨_, rfl, fun A F => ?_⟩;replace M := M.after2 hb1;refine mv F fun A F=>?_
 cases c2 : (nmB x.1) with
 | true =>
  rw [c2] at F;refine on' F 3 ?_;refine fl F 1 fun A F=>?_;refine on' F 3 ?_;refine ce F M 0 fun A F=>?_;refine on' F 3 ?_;refine sw_callR (by kernel_rfl) ((iskind_m _ x.2.1).2 _ (Below.refl _ _) (fun _ q => q.elim)) F ⟨rfl, rfl, rfl⟩ rfl rfl ?_;rintro e w1 ⟨v, fs, s', rfl, _, hb1, _, rfl⟩;refine ⟨_, rfl, fun A F => ?_⟩;replace M := M.after2 hb1;refine pkT F fun A F=>?_;refine mv F fun A F=>?_
  cases c3 : (decide (1 ≤ x.2.1 ∧ x.2.1 ≤ 3)) with
  | true =>
   rw [c3] at F;refine on' F 8 ?_;refine fl F 2 fun A F=>?_;refine on' F 8 ?_;refine ce F M 0 fun A F=>?_;refine on' F 8 ?_;refine sw_callR (by kernel_rfl) ((iskind_m _ x.2.2).2 _ (Below.refl _ _) (fun _ q => q.elim)) F ⟨rfl, rfl, rfl⟩ rfl rfl ?_;rintro e w1 ⟨v, fs, s', rfl, _, hb1, _, rfl⟩;refine ⟨_, rfl, fun A F => ?_⟩;replace M := M.after2 hb1;refine pkT F fun A F=>?_;refine as1 F fun A F=>?_;refine en (wp_ret ?_);repeat first|refine tr ?_|refine br ?_
   exact sw_rettmp F Tryz.results26 rfl (ze M (by unfold taF; rw [c2, c3]; rfl))
  | false =>
   rw [c3] at F;refine off3 F 8 8 8 fun A F=>?_;refine pkF F fun A F=>?_;refine as1 F fun A F=>?_;refine en (wp_ret ?_);repeat first|refine tr ?_|refine br ?_
   exact sw_rettmp F Tryz.results26 rfl (ze M (by unfold taF; rw [c2, c3]; rfl))
 | false =>
  rw [c2] at F;refine off3 F 3 3 3 fun A F=>?_;refine pkF F fun A F=>?_;refine mv F fun A F=>?_;refine off3 F 8 8 8 fun A F=>?_;refine pkF F fun A F=>?_;refine as1 F fun A F=>?_;refine en (wp_ret ?_);repeat first|refine tr ?_|refine br ?_
  exact sw_rettmp F Tryz.results26 rfl (ze M (by unfold taF; rw [c2]; rfl))
end Go.Proofs.YtpofgnlkhkednaaGreatDoor
