import Derived.Test.YthhpkjmhcolgfaaGreatDoorSQf
namespace Go.Proofs.YthhpkjmhcolgfaaGreatDoor
open Go.RowKit
set_option linter.unusedVariables false
set_option linter.unusedSimpArgs false
set_option maxRecDepth 20000
set_option maxHeartbeats 8000000
theorem dig_low {n : Nat} (h : n < 10) : digK n = [UInt8.ofNat (48 + n)] := by rw [digK, if_pos h]
theorem dig_big {n : Nat} (h : 10 ≤ n) : digK n = digK (n / 10) ++ [UInt8.ofNat (48 + n % 10)] := by rw [digK, if_neg (by omega)]
theorem dig_len (n : Nat) : (digK n).length ≤ n + 1 := by
 induction n using Nat.strongRecOn with
 | ind n ih =>
  rcases Nat.lt_or_ge n 10 with h | h
  ·rw [dig_low h]; simp
  ·rw [dig_big h, List.length_append];have := ih (n / 10) (by omega);simp only [List.length_cons, List.length_nil];omega
theorem wrap8 (n : Int) (h1 : 0 ≤ n) (h2 : n ≤ 255) : IntKind.u8.wrap n = n := by
 simp [IntKind.wrap, IntKind.min, IntKind.max, IntKind.signed, IntKind.bits];omega
theorem fill_byte (c : Int) : Instr.fill (fun i => some (i * 1, 1)) ((Array.range (1 * 1)).map ((Value.int .u8 0).cells[· % (Value.int .u8 0).cells.size]!)) [(0, .int .u8 c)] = some #[.int .u8 c] := by kernel_rfl
section
variable {ops : Array Oper} {Q : Exit → Act → World → Prop} {a : Act} {w w0 : World} {rest : List Oper} {o o1 o2 : Oper} {N : Nat} {L : List (Nat × Value)} {i t u : Nat} {x y : Operand}
variable {σ : Type} {X : σ → World → Prop} {T : Nat → Prop} {E : List Ent} {s : σ}
theorem sw_rem10 {P : Program} {m : Nat} (F : Fm N L a) (h : Is o (some i) (.binOp .rem t x y u)) (h1 : opv L x = some (.int .i64 (m : Int))) (h2 : opv L y = some (.int .i64 10)) (hi : Nat.blt i N = true) (K : ∀ a', Fm N ((i, .int .i64 ((m % 10 : Nat) : Int)) :: L) a' → wpList P ops Q rest a' w) : wpList P ops Q (o :: rest) a w :=
 sw_val F h.1 h.2.2 hi (by unfold execOp; rw [h.2.1]; simp [F.ev h1, F.ev h2, eqGuard_at_int, binOp_rem, Op.intDiv]; rfl) K
theorem sw_quo10 {P : Program} {m : Nat} (F : Fm N L a) (h : Is o (some i) (.binOp .quo t x y u)) (h1 : opv L x = some (.int .i64 (m : Int))) (h2 : opv L y = some (.int .i64 10)) (hm : m ≤ 1099511627775) (hi : Nat.blt i N = true) (K : ∀ a', Fm N ((i, .int .i64 ((m / 10 : Nat) : Int)) :: L) a' → wpList P ops Q rest a' w) : wpList P ops Q (o :: rest) a w :=
 sw_val F h.1 h.2.2 hi (by
  have e2 : IntKind.i64.wrap ((m : Int) / 10) = (m : Int) / 10 := wrapJ _ (by omega) (by omega);unfold execOp; rw [h.2.1]; simp only [F.ev h1, F.ev h2, Sem.run_bind];simp [eqGuard_at_int, binOp_quo, Op.intDiv]
  exact e2) K
theorem sw_byte (F : Fm N L a) (M : Mm X T w0 E s w) {i1 i2 ty ety st : Nat} {c : Int} (h1 : Is o1 (some i1) (.buildSlice ty 1 #[(0, x)])) (h2 : Is o2 (some i2) (.convert ty st (.tmp i1))) (hx : opv L x = some (.int .u8 c)) (hu : Tryz.prog.underlying ty = some (.slice ety)) (he : Tryz.prog.underlying ety = some (.int .u8)) (hs : Tryz.prog.underlying st = some .string) (hi : (Tryz.prog.info? ety).map (fun i => (i.zero, i.size, decide (i.bytes ≤ 1000))) = some (some (.int .u8 0), 1, true)) (hb : (Nat.blt i1 N && Nat.blt i2 N) = true)
  (K : ∀ u a' w', Fm N ((i2, .string (str [UInt8.ofNat c.toNat])) :: (i1, u) :: L) a' → Mm X T w0 E s w' → wpList Tryz.prog ops Q rest a' w') : wpList Tryz.prog ops Q (o1 :: o2 :: rest) a w := by
 obtain ⟨ii, ii1, ii2, ii3, ii4⟩ := info_parts3 hi;rw [Bool.and_eq_true] at hb;refine wpList_buildSlice h1.2.2 ty ety 1 _ h1.2.1 #[.int .u8 c] ii _ hu ii1 ii2 (by rw [ii3]; omega) (by rw [ii3]; omega) ?_ ?_
 ·have e : ((#[(0, x)] : Array (Nat × Operand)).map fun (i, x) => (i, a.eval x)).toList = [(0, .int .u8 c)] := by
   simp [F.ev hx]
  rw [e, ii3];show Instr.fill (fun i => some (i * 1, 1)) ((Array.range (1 * 1)).map ((Value.int .u8 0).cells[· % (Value.int .u8 0).cells.size]!)) [(0, .int .u8 c)] = some #[.int .u8 c];exact fill_byte c
 rw [h1.1];have F1 := F.put (v := .slice (some ⟨w.heap.size, 0, none⟩) 1 1) hb.1;have bA : Below w.heap.size w (w.alloc (.cells #[.int .u8 c] ety)) := (Below.refl _ _).alloc (Nat.le_refl _) _;have M1 : Mm X T w0 E s (w.alloc (.cells #[.int .u8 c] ety)) := M.after2 bA;refine sw_val F1 h2.1 h2.2.2 hb.2 (v := .string (str [UInt8.ofNat c.toNat])) ?_ fun a' F' => K _ _ _ F' M1;unfold execOp;rw [h2.2.1];simp only [F1.ev (x := .tmp i1) (v := .slice (some ⟨w.heap.size, 0, none⟩) 1 1) (by simp [opv, lk]), Sem.run_bind]
 rw [run_convert_bytes_arg (P := Tryz.prog) (w.alloc (.cells #[.int .u8 c] ety)) ty ety hu he w.heap.size 0 1 1 [c] rfl (fun i hi => by
  have : i = 0 := by omega
  subst this
  exact (Blk.new w #[.int .u8 c] ety).cell 0) st hs]
 rfl
end
theorem rnum_m (w0 : World) (n : Int) (h0 : 0 ≤ n) (h1 : n ≤ 1099511627775) : Meth Tryz.prog (Bx w0) (fun _ => False) 180 [.int .i64 n] () (fun v _ _ => v = .string (str (digK n.toNat))) := by
 refine ⟨by kernel_rfl, fun wO R _ => ?_⟩;have M := bx_begin R;refine sw_fn Tryz.func180 rfl 23 Tryz.ntmps180 rfl fun A F => ?_;refine sq (rg ?_);refine as1 F fun A F=>?_;refine en (sq (rg ?_));refine as1 F fun A F=>?_;refine en (sq ?_);refine wp_block ?_;refine wp_loop (fun A w => ∃ (m : Nat) (sf : Key), m ≤ 1099511627775 ∧ digK m ++ sf = digK n.toNat ∧ Fm 23 [(3, .string (str sf)), (0, .int .i64 (m : Int))] A ∧ Mm (Bx w0) (fun _ => False) wO [] () w) (fun A _ => (intOf (A.eval (.tmp 0))).toNat) ?_ ?_
 ·obtain ⟨m, rfl⟩ := Int.eq_ofNat_of_zero_le h0;exact ⟨m, [], by omega, by simp, F.keep [3, 0] rfl, M⟩
 repeat clear F
 repeat clear M
 rintro A w ⟨m, sf, hm, hd, F, M⟩;have hA : A.eval (.tmp 0) = .int .i64 (m : Int) := F.2.2 0 _ rfl;refine sq (sq (rg ?_));refine mv F fun A F=>?_;refine gti F fun A F=>?_;refine en (cd F (fun hc1=>?_) fun hc1=>?_)
 ·replace hc1 := of_decide_eq_true hc1;refine wp_skip (wp_block ?_);refine sq (rg ?_);refine mv F fun A F=>?_;refine sw_rem10 (m := m) F ⟨rfl, rfl, rfl⟩ rfl rfl rfl fun A F => ?_;refine sw_add F ⟨rfl, rfl, rfl⟩ rfl rfl (by omega) rfl fun A F => ?_;refine sw_conv F ⟨rfl, rfl, rfl⟩ rfl (by kernel_rfl) Tryz.underlying5 rfl fun A F => ?_;rw [wrap8 (48 + ((m % 10 : Nat) : Int)) (by omega) (by omega)] at F;refine sw_byte F M (c := (48 + ((m % 10 : Nat) : Int))) ⟨rfl, rfl, rfl⟩ ⟨rfl, rfl, rfl⟩ rfl Tryz.underlying54 Tryz.underlying5 Tryz.underlying9 (by kernel_rfl) rfl fun u A w F M => ?_;refine mv F fun A F=>?_;refine sw_sadd F ⟨rfl, rfl, rfl⟩ rfl rfl (by have := congrArg List.length hd; have := dig_len n.toNat; simp only [List.length_append, List.length_cons, List.length_nil] at *; omega) rfl fun A F => ?_;refine as1 F fun A F=>?_;refine en (rg ?_);refine mv F fun A F=>?_;refine sw_quo10 (m := m) F ⟨rfl, rfl, rfl⟩ rfl rfl (by omega) rfl fun A F => ?_;refine as1 F fun A F=>?_;refine sw_end ?_;show _ ∧ _;refine ⟨⟨m / 10, _, by omega, ?_, F.keep [3, 0] rfl, M⟩, ?_⟩
  ·rw [← hd, dig_big (show 10 ≤ m by omega), List.append_assoc];rfl
  rw [(F.keep (N := 23) (L' := [(0, .int .i64 ((m / 10 : Nat) : Int))]) [0] rfl).2.2 0 (.int .i64 ((m / 10 : Nat) : Int)) rfl, hA];simp only [intOf];omega
 replace hc1 := of_decide_eq_false hc1;refine wp_exit ?_;repeat (first | refine then_exit ?_ | refine exit_block ?_ | refine exit_pass rfl ?_)
 show Code.wp _ _ _ _ _;refine sq (rg ?_);refine mv F fun A F=>?_;refine sw_add F ⟨rfl, rfl, rfl⟩ rfl rfl (by omega) rfl fun A F => ?_;refine sw_conv F ⟨rfl, rfl, rfl⟩ rfl (by kernel_rfl) Tryz.underlying5 rfl fun A F => ?_;rw [wrap8 (48 + (m : Int)) (by omega) (by omega)] at F;refine sw_byte F M (c := (48 + (m : Int))) ⟨rfl, rfl, rfl⟩ ⟨rfl, rfl, rfl⟩ rfl Tryz.underlying54 Tryz.underlying5 Tryz.underlying9 (by kernel_rfl) rfl fun u A w F M => ?_;refine mv F fun A F=>?_;refine sw_sadd F ⟨rfl, rfl, rfl⟩ rfl rfl (by have := congrArg List.length hd; have := dig_len n.toNat; simp only [List.length_append, List.length_cons, List.length_nil] at *; omega) rfl fun A F => ?_;refine as1 F fun A F=>?_;refine en (wp_ret ?_);repeat first|refine tr ?_|refine br ?_
 exact sw_rettmp F Tryz.results180 rfl (ze M (by rw [← hd, dig_low (show m < 10 by omega)]; rfl))
theorem bare_all : ∀ x : XT, BareOk x
 | .mk op n s ar => bare_of rnum_m op n s ar fun y hy => bare_all y
termination_by x => SizeOf.sizeOf x
decreasing_by
 have := List.sizeOf_lt_of_mem hy;simp only [XT.mk.sizeOf_spec];omega
theorem prexpr_m (x : XT) (b : Nat) (w0 : World) (lo : Nat) (fs : List Fld) (r : Int) (h1 : 1 ≤ r) (h7 : r ≤ 7) (hp : pvAll fs = x.pv) (hl : lieAll lo w0 fs) : PrM b w0 124 [ptr b, .agg (fs.map Fld.val).toArray, .int .i64 r] (brkV r x.op x.evs) := expr_of x (bare_all x) b w0 lo fs r h1 h7 hp hl
theorem prargs_m (l : List XT) (b : Nat) (w0 : World) (lo : Nat) (la : Option Addr) (lc : Nat) (es : List (List Fld)) (he : pvRows es = l.map XT.pv) (hA : (Fld.l la lc es).lies lo w0) : PrM b w0 125 [ptr b, .slice la es.length lc] (argsV (l.map XT.evs)) := args_of l (fun x _ => bare_all x) b w0 lo la lc es he hA
def StOk (x : ST) : Prop := ∀ (b : Nat) (w0 : World) (lo : Nat) (fs : List Fld), pvAll fs = x.pv → lieAll lo w0 fs → PrM b w0 92 [ptr b, .agg (fs.map Fld.val).toArray] x.evs
theorem row_tree2 {es : List (List Fld)} {l : List ST} (he : pvRows es = l.map ST.pv) {k : Nat} {d : List Fld} (hd : es[k]? = some d) : ∃ x, x ∈ l ∧ pvAll d = x.pv ∧ (l.map ST.evs)[k]? = some x.evs := by
 have e : (pvRows es)[k]? = (l.map ST.pv)[k]? := by rw [he]
 rw [pvRows_map, List.getElem?_map, List.getElem?_map, hd] at e
 cases hx : l[k]? with
 | none => rw [hx] at e; cases e
 | some x =>
  rw [hx] at e;injection e with e
  exact ⟨x, List.mem_of_getElem? hx, e, by rw [List.getElem?_map, hx]; rfl⟩
theorem eight_of {es : List (List Fld)} {l : List ST} (he : pvRows es = l.map ST.pv) : ∀ d ∈ es, d.length = 8 := sz_of (n := 8) fun x hx => by
 rw [he] at hx;obtain ⟨y, _, rfl⟩ := List.mem_map.1 hx;cases y;rfl
theorem flat_take {l : List (List PEv)} {k : Nat} {b : List PEv} (h : l[k]? = some b) : (l.take (k + 1)).flatten = (l.take k).flatten ++ b := by
 rw [List.take_add_one, h];simp
theorem flat_fit {p : PS} {l : List (List PEv)} {k : Nat} {b : List PEv} (h : Fit p l.flatten) (hb : l[k]? = some b) : Fit (p.run (l.take k).flatten) b := by
 have e : l.flatten = (l.take k).flatten ++ (b ++ (l.drop (k + 1)).flatten) := by
  rw [← List.append_assoc, ← flat_take hb, ← List.flatten_append, List.take_append_drop]
 rw [e] at h;exact h.r.l
theorem wants_no {k : Int} (h : k < 1 ∨ 10 < k) : wantsI k = (false, false, -1, 0) := by
 unfold wantsI;rw [if_neg (by omega), if_neg (by omega), if_neg (by omega), if_neg (by omega), if_neg (by omega), if_neg (by omega), if_neg (by omega), if_neg (by omega)]
section
variable {P : Program} {ops : Array Oper} {Q : Exit → Act → World → Prop} {a : Act} {w : World} {rest : List Oper} {o : Oper} {N : Nat} {L : List (Nat × Value)} {i t u : Nat} {x y : Operand}
theorem sw_ret4 (F : Fm N L a) {fn : Func} {i j k l : Nat} {v1 v2 v3 v4 : Value} {R : Ending → World → Prop} (hres : fn.results = #[.tmp i, .tmp j, .tmp k, .tmp l]) (h1 : lk i L = some v1) (h2 : lk j L = some v2) (h3 : lk k L = some v3) (h4 : lk l L = some v4) (hR : R (.returned (.tuple #[v1, v2, v3, v4])) w) : bodyPost P fn R .ret a w := by
 have at_ : ∀ q u, lk q L = some u → a.tmps[q]?.getD undef = u := fun q u hq => by
  have := F.2.2 q _ hq;unfold Act.eval at this;rw [← Array.getD_eq_getD_getElem?];exact this
 refine bodyPost_ret (v := .tuple #[v1, v2, v3, v4]) ?_ F.2.1 hR;simp [results, hres, at_ i _ h1, at_ j _ h2, at_ k _ h3, at_ l _ h4]
theorem sw_part (F : Fm N L a) {k : Nat} {vs : Array Value} {v : Value} (h : Is o (some i) (.extract x k)) (h1 : opv L x = some (.tuple vs)) (hv : vs[k]? = some v) (hi : Nat.blt i N = true) (K : ∀ a', Fm N ((i, v) :: L) a' → wpList P ops Q rest a' w) : wpList P ops Q (o :: rest) a w :=
 sw_val F h.1 h.2.2 hi (by unfold execOp; rw [h.2.1]; simp [F.ev h1, Instr.extract, hv]) K
theorem sw_rowslice (F : Fm N L a) {la : Option Addr} {lc n k sz e : Nat} {lo : Operand} (h : Is o (some i) (.slice t x (some lo) none none)) (h1 : opv L x = some (.slice la n lc)) (h2 : opv L lo = some (.int .i64 (k : Int))) (hk : k ≤ n) (hu : P.underlying t = some (.slice e)) (hz : (P.info? e).map (·.size) = some sz) (hi : Nat.blt i N = true) (K : ∀ a', Fm N ((i, .slice (if lc = k then la else la.map (·.add (k * sz))) (n - k) (lc - k)) :: L) a' → wpList P ops Q rest a' w) : wpList P ops Q (o :: rest) a w :=
 sw_val F h.1 h.2.2 hi (by
  unfold execOp; rw [h.2.1]
  cases hq : P.info? e with
  | none => rw [hq] at hz; cases hz
  | some ii =>
   rw [hq] at hz;have hz : ii.size = sz := by injection hz
   simp [F.ev h1, F.ev h2, Instr.sliceAt, Instr.slice, Instr.sliceBounds, Instr.sliceBound, asIntOf, run_underlying hu, hk, sizeOf, typeInfo, hq, hz]) K
end
theorem rows_drop {lo sz : Nat} {w : World} {rb : Nat} : ∀ (es : List (List Fld)) (ro k : Nat), (∀ d ∈ es, d.length = sz) → rowsLie lo w rb ro es → rowsLie lo w rb (ro + k * sz) (es.drop k)
 | es, ro, 0, _, h => by simpa using h
 | [], ro, k + 1, _, _ => trivial
 | e :: es, ro, k + 1, hl, h => by
  have := rows_drop es (ro + e.length) k (fun d hd => hl d (List.mem_cons_of_mem _ hd)) h.2;rw [hl e (List.mem_cons_self ..)] at this;rw [Nat.succ_mul, show ro + (k * sz + sz) = ro + sz + k * sz by omega];exact this
theorem lies_drop {lo sz lc k : Nat} {w : World} {la : Option Addr} {es : List (List Fld)} (h : (Fld.l la lc es).lies lo w) (hl : ∀ d ∈ es, d.length = sz) (hk : k ≤ es.length) : (Fld.l (if lc = k then la else la.map (·.add (k * sz))) (lc - k) (es.drop k)).lies lo w := by
 obtain ⟨h1, h2, h3⟩ := h;refine ⟨by rw [List.length_drop]; omega, by omega, ?_⟩;rcases h3 with rfl | ⟨rb, ro, rfl, q1, q2, q3⟩
 ·exact .inl (by simp)
 ·rcases Nat.eq_or_lt_of_le hk with e | e
  ·exact .inl (by rw [e, List.drop_length])
  ·exact .inr ⟨rb, ro + k * sz, by rw [if_neg (by omega)]; simp [Addr.add], q1, q2, rows_drop es ro k hl q3⟩
theorem rwants_m (w0 : World) (k : Int) : Meth Tryz.prog (Bx w0) (fun _ => False) 123 [.int .i64 k] () (fun v _ _ => v = .tuple #[.bool (wantsI k).1, .bool (wantsI k).2.1, .int .i64 (wantsI k).2.2.1, .int .i64 (wantsI k).2.2.2]) := by
 refine ⟨by kernel_rfl, fun wO R _ => ?_⟩;have M := bx_begin R;refine sw_fn Tryz.func123 rfl 25 Tryz.ntmps123 rfl fun A F => ?_;refine sq (rg ?_);refine as1 F fun A F=>?_;refine as1 F fun A F=>?_;refine as1 F fun A F=>?_;refine as1 F fun A F=>?_;refine en (sq (sq (rg ?_)));refine mv F fun A F=>?_;refine en (wp_block ?_);refine sq (rg ?_);refine eqi F fun A F=>?_;refine as1 F fun A F=>?_;refine en (cd F (fun hc1=>?_) fun hc1=>?_)
 ·have hhc1 : (k = 1) := by simpa using hc1
  rw [hc1] at F;refine sq (rg ?_);refine as1 F fun A F=>?_;refine as1 F fun A F=>?_;refine as1 F fun A F=>?_;refine as1 F fun A F=>?_;refine en (wp_ret ?_);repeat first|refine tr ?_|refine br ?_
  exact sw_ret4 F Tryz.results123 rfl rfl rfl rfl ⟨_, [], (), rfl, M.but, M.st, lie_nil _ _, by subst hhc1; rfl⟩
 have hhc1 : (k ≠ 1) := by simpa using hc1
 rw [hc1] at F;refine sq (rg ?_);refine eqi F fun A F=>?_;refine as1 F fun A F=>?_;refine en (cd F (fun hc2=>?_) fun hc2=>?_)
 ·have hhc2 : (k = 2) := by simpa using hc2
  rw [hc2] at F;refine sq (rg ?_);refine as1 F fun A F=>?_;refine as1 F fun A F=>?_;refine as1 F fun A F=>?_;refine as1 F fun A F=>?_;refine en (wp_ret ?_);repeat first|refine tr ?_|refine br ?_
  exact sw_ret4 F Tryz.results123 rfl rfl rfl rfl ⟨_, [], (), rfl, M.but, M.st, lie_nil _ _, by subst hhc2; rfl⟩
 have hhc2 : (k ≠ 2) := by simpa using hc2
 rw [hc2] at F;refine sq (rg ?_);refine eqi F fun A F=>?_;refine as1 F fun A F=>?_;refine en (cd F (fun hc3=>?_) fun hc3=>?_)
 ·have hhc3 : (k = 3) := by simpa using hc3
  rw [hc3] at F;refine sq (rg ?_);refine as1 F fun A F=>?_;refine as1 F fun A F=>?_;refine as1 F fun A F=>?_;refine as1 F fun A F=>?_;refine en (wp_ret ?_);repeat first|refine tr ?_|refine br ?_
  exact sw_ret4 F Tryz.results123 rfl rfl rfl rfl ⟨_, [], (), rfl, M.but, M.st, lie_nil _ _, by subst hhc3; rfl⟩
 have hhc3 : (k ≠ 3) := by simpa using hc3
 rw [hc3] at F;refine sq (rg ?_);refine eqi F fun A F=>?_;refine as1 F fun A F=>?_;refine en (cd F (fun hc4=>?_) fun hc4=>?_)
 ·have hhc4 : (k = 4) := by simpa using hc4
  rw [hc4] at F;refine sq (rg ?_);refine as1 F fun A F=>?_;refine as1 F fun A F=>?_;refine as1 F fun A F=>?_;refine as1 F fun A F=>?_;refine en (wp_ret ?_);repeat first|refine tr ?_|refine br ?_
  exact sw_ret4 F Tryz.results123 rfl rfl rfl rfl ⟨_, [], (), rfl, M.but, M.st, lie_nil _ _, by subst hhc4; rfl⟩
 have hhc4 : (k ≠ 4) := by simpa using hc4
 rw [hc4] at F;refine sq (rg ?_);refine eqi F fun A F=>?_;refine as1 F fun A F=>?_;refine en (cd F (fun hc5=>?_) fun hc5=>?_)
 ·have hhc5 : (k = 5) := by simpa using hc5
  rw [hc5] at F;refine sq (rg ?_);refine as1 F fun A F=>?_;refine as1 F fun A F=>?_;refine as1 F fun A F=>?_;refine as1 F fun A F=>?_;refine en (wp_ret ?_);repeat first|refine tr ?_|refine br ?_
  exact sw_ret4 F Tryz.results123 rfl rfl rfl rfl ⟨_, [], (), rfl, M.but, M.st, lie_nil _ _, by subst hhc5; rfl⟩
 have hhc5 : (k ≠ 5) := by simpa using hc5
 rw [hc5] at F;refine sq (sq (rg ?_));refine eqi F fun A F=>?_;refine as1 F fun A F=>?_;refine en (cd F (fun hc6=>?_) fun hc6=>?_)
 ·have hhc6 : (k = 6) := by simpa using hc6
  rw [hc6] at F;refine wp_skip (sw_true F rfl ?_);refine sq (rg ?_);refine as1 F fun A F=>?_;refine as1 F fun A F=>?_;refine as1 F fun A F=>?_;refine as1 F fun A F=>?_;refine en (wp_ret ?_);repeat first|refine tr ?_|refine br ?_
  exact sw_ret4 F Tryz.results123 rfl rfl rfl rfl ⟨_, [], (), rfl, M.but, M.st, lie_nil _ _, by subst hhc6; rfl⟩
 have hhc6 : (k ≠ 6) := by simpa using hc6
 rw [hc6] at F;refine sq (rg ?_);refine eqi F fun A F=>?_;refine as1 F fun A F=>?_;refine en (cd F (fun hc7=>?_) fun hc7=>?_)
 ·have hhc7 : (k = 7) := by simpa using hc7
  rw [hc7] at F;refine wp_skip (sw_true F rfl ?_);refine sq (rg ?_);refine as1 F fun A F=>?_;refine as1 F fun A F=>?_;refine as1 F fun A F=>?_;refine as1 F fun A F=>?_;refine en (wp_ret ?_);repeat first|refine tr ?_|refine br ?_
  exact sw_ret4 F Tryz.results123 rfl rfl rfl rfl ⟨_, [], (), rfl, M.but, M.st, lie_nil _ _, by subst hhc7; rfl⟩
 have hhc7 : (k ≠ 7) := by simpa using hc7
 rw [hc7] at F;refine rg ?_;refine eqi F fun A F=>?_;refine as1 F fun A F=>?_;refine en (cd F (fun hc8=>?_) fun hc8=>?_)
 ·have hhc8 : (k = 9) := by simpa using hc8
  rw [hc8] at F;refine sq (rg ?_);refine as1 F fun A F=>?_;refine as1 F fun A F=>?_;refine as1 F fun A F=>?_;refine as1 F fun A F=>?_;refine en (wp_ret ?_);repeat first|refine tr ?_|refine br ?_
  exact sw_ret4 F Tryz.results123 rfl rfl rfl rfl ⟨_, [], (), rfl, M.but, M.st, lie_nil _ _, by subst hhc8; rfl⟩
 have hhc8 : (k ≠ 9) := by simpa using hc8
 rw [hc8] at F;refine sq (rg ?_);refine eqi F fun A F=>?_;refine as1 F fun A F=>?_;refine en (cd F (fun hc9=>?_) fun hc9=>?_)
 ·have hhc9 : (k = 8) := by simpa using hc9
  rw [hc9] at F;refine sq (rg ?_);refine as1 F fun A F=>?_;refine as1 F fun A F=>?_;refine as1 F fun A F=>?_;refine as1 F fun A F=>?_;refine en (wp_ret ?_);repeat first|refine tr ?_|refine br ?_
  exact sw_ret4 F Tryz.results123 rfl rfl rfl rfl ⟨_, [], (), rfl, M.but, M.st, lie_nil _ _, by subst hhc9; rfl⟩
 have hhc9 : (k ≠ 8) := by simpa using hc9
 rw [hc9] at F;refine sq (rg ?_);refine eqi F fun A F=>?_;refine as1 F fun A F=>?_;refine en (cd F (fun hc10=>?_) fun hc10=>?_)
 ·have hhc10 : (k = 10) := by simpa using hc10
  rw [hc10] at F;refine sq (rg ?_);refine as1 F fun A F=>?_;refine as1 F fun A F=>?_;refine as1 F fun A F=>?_;refine as1 F fun A F=>?_;refine en (wp_ret ?_);repeat first|refine tr ?_|refine br ?_
  exact sw_ret4 F Tryz.results123 rfl rfl rfl rfl ⟨_, [], (), rfl, M.but, M.st, lie_nil _ _, by subst hhc10; rfl⟩
 have hhc10 : (k ≠ 10) := by simpa using hc10
 rw [hc10] at F;refine wp_skip (sq (rg ?_));refine as1 F fun A F=>?_;refine as1 F fun A F=>?_;refine as1 F fun A F=>?_;refine as1 F fun A F=>?_;refine en (wp_ret ?_);repeat first|refine tr ?_|refine br ?_
 exact sw_ret4 F Tryz.results123 rfl rfl rfl rfl ⟨_, [], (), rfl, M.but, M.st, lie_nil _ _, by rw [wants_no (by omega)]⟩
theorem block_of (l : List ST) (H : ∀ x ∈ l, StOk x) (b : Nat) (w0 : World) (lo : Nat) (la : Option Addr) (lc : Nat) (es : List (List Fld)) (he : pvRows es = l.map ST.pv) (hA : (Fld.l la lc es).lies lo w0) : PrM b w0 64 [ptr b, .slice la es.length lc] (blockV (l.map ST.evs)) := by
 intro p ft;have hsA := eight_of he;obtain ⟨bs, hbs⟩ : ∃ bs, bs = l.map ST.evs := ⟨_, rfl⟩;have hbl : bs.length = es.length := by rw [hbs, List.length_map, ← pvRows_len, he, List.length_map]
 obtain ⟨p1, hp1⟩ : ∃ p1, p1 = p.run (upV ++ optV [123]) := ⟨_, rfl⟩
 have hE : blockV (l.map ST.evs) = (upV ++ optV [123]) ++ (bs.flatten ++ (optV [125] ++ downV)) := by
  rw [← hbs, blockV];simp only [List.append_assoc];rfl
 rw [hE] at ft;have hf0 := ft.l;have ft2 := ft.r;rw [← hp1] at ft2;have hf1 := ft2.l;have hf2 := ft2.r
 have hfin : p.run (blockV (l.map ST.evs)) = (p1.run bs.flatten).run (optV [125] ++ downV) := by
  rw [hE, PS.run_app, ← hp1, PS.run_app]
 refine ⟨by kernel_rfl, fun wO R _ => ?_⟩;have M := pr_begin R;refine sw_fn Tryz.func64 rfl 21 Tryz.ntmps64 rfl fun A F => ?_;refine sq (rg ?_);refine mv F fun A F=>?_;refine sw_call0 (ropn_m [123] b w0 p hf0) F M ⟨rfl, rfl, rfl⟩ rfl rfl ?_;rintro _ _ A w ⟨_, rfl⟩ F M;refine en (sq (sq (rg ?_)));refine as1 F fun A F=>?_;refine en ?_;show Code.wp _ _ _ _ _;rw [← hp1] at M;refine wp_block ?_;refine wp_loop (fun A w => ∃ k : Nat, k ≤ es.length ∧ Fm 21 [(4, .int .i64 (k : Int)), (1, .slice la es.length lc), (0, ptr b)] A ∧ Mm (PrX b w0) (fun k => k = b) wO [] (p1.run (bs.take k).flatten) w) (fun A _ => es.length - (intOf (A.eval (.tmp 4))).toNat) ?_ ?_
 ·exact ⟨0, Nat.zero_le _, F.keep [4, 1, 0] rfl, M⟩
 repeat clear F
 repeat clear M
 rintro A w ⟨k, hk, F, M⟩;have hA4 : A.eval (.tmp 4) = .int .i64 (k : Int) := F.2.2 4 _ rfl;refine sq (sq (rg ?_));refine mv F fun A F=>?_;refine mv F fun A F=>?_;refine sw_len F ⟨rfl, rfl, rfl⟩ rfl Tryz.underlying68 rfl fun A F => ?_;refine lsi F fun A F=>?_;refine en (cd F (fun hc1=>?_) fun hc1=>?_)
 ·replace hc1 := of_decide_eq_true hc1;have hkk : k < es.length := by omega
  obtain ⟨bk, ok, dk, rfl, hdk, rk, lik, hmk⟩ := el_at hA hsA hkk;have hdl := hsA dk (List.mem_of_getElem? hdk);obtain ⟨xk, hxk, hpv, hbk⟩ := row_tree2 he hdk;rw [← hbs] at hbk;have hfk := flat_fit hf1 (k := k) (b := xk.evs) hbk;refine wp_skip (sq ?_);refine wp_block ?_;refine rg ?_;refine mv F fun A F=>?_;refine mv F fun A F=>?_;refine mv F fun A F=>?_;refine sw_at F 8 ⟨rfl, rfl, rfl⟩ rfl rfl hkk Tryz.underlying68 (by kernel_rfl) rfl fun A F => ?_;refine sw_rng F (cs := dk.map Fld.val) (rk w M.st.2.1) ⟨rfl, rfl, rfl⟩ rfl (by kernel_rfl) (by rw [List.length_map, hdl]; kernel_rfl) rfl fun A F => ?_;refine sw_call0 ((H xk hxk) b w0 lo dk hpv lik _ hfk) F M ⟨rfl, rfl, rfl⟩ rfl rfl ?_;rintro _ _ A w ⟨_, rfl⟩ F M;refine en (rg ?_);refine mv F fun A F=>?_;refine sw_add F ⟨rfl, rfl, rfl⟩ rfl rfl (by have := lie_max hA; omega) rfl fun A F => ?_;refine as1 F fun A F=>?_;refine sw_end ?_;show _ ∧ _;refine ⟨⟨k + 1, by omega, F.keep [4, 1, 0] rfl, by rw [flat_take hbk, PS.run_app]; exact M⟩, ?_⟩;rw [(F.keep (N := 21) (L' := [(4, .int .i64 ((k + 1 : Nat) : Int))]) [4] rfl).2.2 4 (.int .i64 ((k + 1 : Nat) : Int)) rfl, hA4];simp only [intOf];omega
 replace hc1 := of_decide_eq_false hc1;have hkn : k = es.length := by omega
 refine wp_exit ?_;repeat (first | refine then_exit ?_ | refine exit_block ?_ | refine exit_pass rfl ?_)
 rw [hkn, ← hbl, List.take_length] at M;show Code.wp _ _ _ _ _;refine rg ?_;refine mv F fun A F=>?_;refine sw_call0 (rsht_m [125] b w0 _ hf2) F M ⟨rfl, rfl, rfl⟩ rfl rfl ?_;rintro _ _ A w ⟨_, rfl⟩ F M;refine sw_end ?_;repeat first|refine tn ?_|refine bn ?_
 exact sw_endnone F Tryz.results64 (ze M hfin.symm)
end Go.Proofs.YthhpkjmhcolgfaaGreatDoor
