import Derived.Test.YthhpkjmhcolgfaaGreatDoorM48
namespace Go.Proofs.YthhpkjmhcolgfaaGreatDoor
open Go.RowKit
set_option linter.unusedVariables false
set_option linter.unusedSimpArgs false
set_option maxRecDepth 20000
set_option maxHeartbeats 8000000
section
variable {P : Program} {ops : Array Oper} {Q : Exit → Act → World → Prop} {a : Act} {w : World} {rest : List Oper} {o : Oper} {N : Nat} {L : List (Nat × Value)} {i t u : Nat} {x y : Operand}
theorem sw_rem {m n : Nat} (F : Fm N L a) (h : Is o (some i) (.binOp .rem t x y u)) (h1 : opv L x = some (.int .i64 (m : Int))) (h2 : opv L y = some (.int .i64 (n : Int))) (hn : 0 < n) (hi : Nat.blt i N = true) (K : ∀ a', Fm N ((i, .int .i64 ((m % n : Nat) : Int)) :: L) a' → wpList P ops Q rest a' w) : wpList P ops Q (o :: rest) a w :=
 sw_val F h.1 h.2.2 hi (by
  have e : ((n : Int) = 0) = False := by simp; omega
  unfold execOp; rw [h.2.1]; simp [F.ev h1, F.ev h2, eqGuard_at_int, binOp_rem, Op.intDiv, e]
  first | rfl | (split <;> first | omega | rfl)) K
theorem sw_quo {m : Int} {n : Nat} (F : Fm N L a) (h : Is o (some i) (.binOp .quo t x y u)) (h1 : opv L x = some (.int .i64 m)) (h2 : opv L y = some (.int .i64 (n : Int))) (hn : 0 < n) (hm : -9223372036854775808 ≤ m ∧ m ≤ 9223372036854775807) (h1n : 1 < n) (hi : Nat.blt i N = true) (K : ∀ a' q, -9223372036854775808 ≤ q → q ≤ 9223372036854775807 → Fm N ((i, .int .i64 q) :: L) a' → wpList P ops Q rest a' w) : wpList P ops Q (o :: rest) a w := by
 have e : ((n : Int) = 0) = False := by simp; omega
 have hw := IntKind.i64.wrap (m.tdiv n)
 have hb : -9223372036854775808 ≤ IntKind.i64.wrap (m.tdiv n) ∧ IntKind.i64.wrap (m.tdiv n) ≤ 9223372036854775807 := by
  simp [IntKind.wrap, IntKind.min, IntKind.max, IntKind.signed, IntKind.bits];omega
 refine sw_val F h.1 h.2.2 hi (v := .int .i64 (IntKind.i64.wrap (m.tdiv n))) (by
  unfold execOp; rw [h.2.1]; simp [F.ev h1, F.ev h2, eqGuard_at_int, binOp_quo, Op.intDiv, e];intro q
  omega) fun a' F' => K a' _ hb.1 hb.2 F'
theorem sw_neg {m : Int} (F : Fm N L a) (h : Is o (some i) (.unOp .neg t x)) (h1 : opv L x = some (.int .i64 m)) (hb : -9223372036854775808 ≤ 0 - m ∧ 0 - m ≤ 9223372036854775807) (hi : Nat.blt i N = true) (K : ∀ a', Fm N ((i, .int .i64 (0 - m)) :: L) a' → wpList P ops Q rest a' w) : wpList P ops Q (o :: rest) a w :=
 sw_val F h.1 h.2.2 hi (by
  have e2 : IntKind.i64.wrap (0 - m) = 0 - m := wrapJ _ hb.1 hb.2;unfold execOp; rw [h.2.1]; simp only [F.ev h1, Sem.run_bind];simp [Op.unary, Op.intArith]
  simpa using e2) K
end
theorem pick_m (w0 : World) (c : Int) (n : Nat) (hc : -9223372036854775808 ≤ c ∧ c ≤ 9223372036854775807) (hn : 0 < n) : Meth Tryz.prog (Bx w0) (fun _ => False) 27 [.int .i64 c, .int .i64 (n : Int)] () (fun v _ _ => ∃ m : Nat, v = .int .i64 (m : Int) ∧ m < n) := by
 refine ⟨by kernel_rfl, fun wO R _ => ?_⟩;have M := bx_begin R;refine sw_fn Tryz.func27 rfl 13 Tryz.ntmps27 rfl fun A F => ?_;refine sq (rg ?_);refine as1 F fun A F=>?_;refine en (sq (sq (rg ?_)));refine mv F fun A F=>?_;refine lsi F fun A F=>?_;refine en (cd F (fun hc1=>?_) fun hc1=>?_)
 ·replace hc1 := of_decide_eq_true hc1;refine rg ?_;refine mv F fun A F=>?_;refine sw_add F ⟨rfl, rfl, rfl⟩ rfl rfl (by omega) rfl fun A F => ?_;refine sw_neg F ⟨rfl, rfl, rfl⟩ rfl (by omega) rfl fun A F => ?_;refine as1 F fun A F=>?_;refine en (sq (rg ?_));refine mv F fun A F=>?_;refine mv F fun A F=>?_;obtain ⟨q, hq⟩ : ∃ q : Nat, (0 - (c + 1)) = (q : Int) := ⟨((0 - (c + 1))).toNat, by omega⟩;rw [hq] at F;refine sw_rem F (m := q) (n := n) ⟨rfl, rfl, rfl⟩ rfl rfl hn rfl fun A F => ?_;refine as1 F fun A F=>?_;refine en (wp_ret ?_);repeat first|refine tr ?_|refine br ?_
  exact sw_rettmp F Tryz.results27 rfl (ze M (⟨q % n, rfl, Nat.mod_lt _ hn⟩))
 replace hc1 := of_decide_eq_false hc1;refine wp_skip (sq (rg ?_));refine mv F fun A F=>?_;refine mv F fun A F=>?_;obtain ⟨q, hq⟩ : ∃ q : Nat, c = (q : Int) := ⟨(c).toNat, by omega⟩;rw [hq] at F;refine sw_rem F (m := q) (n := n) ⟨rfl, rfl, rfl⟩ rfl rfl hn rfl fun A F => ?_;refine as1 F fun A F=>?_;refine en (wp_ret ?_);repeat first|refine tr ?_|refine br ?_
 exact sw_rettmp F Tryz.results27 rfl (ze M (⟨q % n, rfl, Nat.mod_lt _ hn⟩))
section
variable {P : Program} {md : Region.Mode} {ops ops' : Array Oper} {Q : Exit → Act → World → Prop}
theorem wp_lastX {m : Nat} {o : Oper} {a : Act} {w : World} {K K' : Act → World → Prop} (h : ∀ a w, K a w → K' a w) (hh : o.wp P a w K (ThenLast P ops Q m)) : o.wp P a w K' Q := by
 unfold Oper.wp at hh ⊢;generalize (execOp a.eval o).run P w = r at hh ⊢
 cases r with
 | ok n w' =>
  cases n with
  | value v => exact h _ _ hh
  | skip => exact h _ _ hh
  | defer d => exact h _ _ hh
  | enter f args =>
   refine Calls.mono (R := _) hh fun e w'' he => ?_
   cases e with
   | returned v => exact h _ _ he
   | panicked c => exact he
   | outgrown => exact he
  | row r args => exact Rows.mono hh fun _ _ he => h _ _ he
  | _ => exact hh
 | halt x w' => cases x <;> exact hh
theorem getD_tfX {listed : Array Bool} {i : Nat} (hi : i < listed.size) (h : listed.getD i true = true) : listed.getD i false = true := by
 simp [Array.getD, hi] at h ⊢; exact h
theorem ready_someX (hord : ∀ (j : Nat) (o : Oper), ops[j]? = some o → ∀ e ∈ o.after, e.on < j) (listed : Array Bool) (hs : listed.size = ops.size) : ∀ m, m < ops.size → listed.getD m true = false → Region.ready md ops listed ≠ [] := by
 intro m
 induction m using Nat.strongRecOn with
 | _ m ih =>
  intro hm hl
  by_cases hx : ∃ j, j < m ∧ listed.getD j true = false
  ·obtain ⟨j, hj, hjl⟩ := hx;exact ih j hj (by omega) hjl
  ·intro h0
   have hmem : m ∈ Region.ready md ops listed := by
    unfold Region.ready;rw [List.mem_filter];refine ⟨List.mem_range.2 hm, ?_⟩;rw [hl];have hg : ops[m]? = some ops[m] := Array.getElem?_eq_getElem hm;rw [hg];simp only [Bool.not_false, Bool.true_and, Option.map_some, Option.getD_some];rw [Array.all_eq_true'];intro e he;have hlt := hord m _ hg e he
    have : listed.getD e.on true = true := by
     cases hq : listed.getD e.on true with
     | true => rfl
     | false => exact (hx ⟨e.on, hlt, hq⟩).elim
    rw [getD_tfX (by omega) this];simp
   rw [h0] at hmem;simp at hmem
theorem wpAny_lastX (m : Nat) (om om' : Oper) (hsz : ops'.size = ops.size) (hm : ops[m]? = some om) (hm' : ops'[m]? = some om') (heq : ∀ j, j ≠ m → ops'[j]? = ops[j]?) (haf : om'.after = om.after)
  (hd : om'.dst = om.dst) (hno : om.dst = none) (hg : om'.guard = none) (hnop : ∀ (a : Act) (w : World) (K : Act → World → Prop) (R : Exit → Act → World → Prop), om'.wp P a w K R → K a w) (hask : ∀ a w, ¬ om'.asks P a w)
  (hord : ∀ (j : Nat) (o : Oper), ops[j]? = some o → ∀ e ∈ o.after, e.on < j) (hwait : ∀ j, j < ops.size → j ≠ m → ∃ e ∈ om.after, Region.binds md e = true ∧ e.on = j) :
  ∀ fuel listed a w, listed.size = ops.size → listed.getD m true = false → wpAny P md ops' (ThenLast P ops Q m) fuel listed a w → wpAny P md ops Q fuel listed a w := by
 have hml : m < ops.size := (Array.getElem?_eq_some_iff.1 hm).1
 have hy : ∀ tm, yielded ops' tm = yielded ops tm := by
  intro tm;funext j;unfold yielded
  by_cases hj : j = m
  ·subst hj; rw [hm, hm']; simp only [Option.bind_some, hd]
  ·rw [heq j hj]
 have hr : ∀ listed, Region.ready md ops' listed = Region.ready md ops listed := by
  intro listed;unfold Region.ready;rw [hsz]
  congr 1
  funext j
  by_cases hj : j = m
  ·subst hj; rw [hm, hm']; simp only [Option.map_some, haf]
  ·rw [heq j hj]
 intro fuel
 induction fuel with
 | zero =>
  intro listed a w hs hl h;have := h.1;rw [hr] at this;exact (ready_someX hord listed hs m hml hl this).elim
 | succ fuel ih =>
  intro listed a w hs hl h;refine ⟨fun h0 => (ready_someX hord listed hs m hml hl h0).elim, fun i hi => ?_⟩;have h2 := h.2 i (by rw [hr]; exact hi)
  by_cases him : i = m
  ·subst him
   have hall : ∀ j, j < ops.size → j ≠ i → listed.getD j true = true := by
    intro j hj hji;unfold Region.ready at hi;rw [List.mem_filter] at hi;have h3 := hi.2;rw [hm] at h3;simp only [Option.map_some, Option.getD_some, Bool.and_eq_true] at h3;obtain ⟨e, he, hb, hon⟩ := hwait j hj hji;have h4 := (Array.all_eq_true'.1 h3.2) e he;rw [hb, hon] at h4;have hjs : j < listed.size := by omega
    simp [Array.getD, hjs] at h4 ⊢;exact h4
   have hrn : Region.ready md ops (listed.setIfInBounds i true) = [] := by
    unfold Region.ready;rw [List.filter_eq_nil_iff];intro j hj;have hj := List.mem_range.1 hj
    have : (listed.setIfInBounds i true).getD j true = true := by
     by_cases hji : j = i
     ·subst hji; simp [Array.getD]
     ·have := hall j hj hji;have hjs : j < listed.size := by omega
      have hij : i ≠ j := fun e => hji e.symm;simp only [Array.getD_eq_getD_getElem?] at this ⊢;rw [Array.getElem?_setIfInBounds_ne hij];exact this
    rw [this]; simp
   unfold wpOp at h2;rw [hm'] at h2;simp only [Region.wanted, hg, if_true] at h2
   have h5 : wpAny P md ops' (ThenLast P ops Q i) fuel (listed.setIfInBounds i true) a w := by
    rcases h2 with h2 | ⟨h2, _⟩
    ·exact hnop _ _ _ _ h2
    ·exact (hask _ _ h2).elim
   have h6 : ThenLast P ops Q i .normal a w := by
    cases fuel with
    | zero => exact h5.2
    | succ n => exact h5.1 (by rw [hr]; exact hrn)
   exact wpOp_mono (fun a' w' hq => wpAny_done hrn hq _) h6
  ·have ho : ops'[i]? = ops[i]? := heq i him
   have hl' : (listed.setIfInBounds i true).getD m true = false := by
    have hms : m < listed.size := by omega
    simp [Array.getD, hms, him] at hl ⊢;exact hl
   have key : wpOp P ops Q i (wpAny P md ops Q fuel (listed.setIfInBounds i true)) a w := by
    unfold wpOp at h2 ⊢;rw [ho, hy] at h2
    cases hoi : ops[i]? with
    | none => rw [hoi] at h2; exact ih _ _ _ (by simpa using hs) hl' h2
    | some o =>
     rw [hoi] at h2;simp only at h2 ⊢
     split
     ·rename_i hw
      rw [if_pos hw] at h2;exact h2.imp (wp_lastX fun a' w' hk => ih _ _ _ (by simpa using hs) hl' hk) (fun ⟨x, y⟩ => ⟨x, y⟩)
     ·rename_i hw
      rw [if_neg hw] at h2;exact ih _ _ _ (by simpa using hs) hl' h2
   exact key
theorem nop_wpX {o : Oper} (ho : o.op = .move (.const undef)) (hd : o.dst = none) (a : Act) (w : World) (K : Act → World → Prop) (R : Exit → Act → World → Prop) (h : o.wp P a w K R) : K a w := by
 unfold Oper.wp execOp at h;rw [ho] at h;have h : K (a.put o.dst (a.eval (.const undef))) w := h;rw [hd] at h;exact h
theorem nop_asksX {o : Oper} (ho : o.op = .move (.const undef)) (a : Act) (w : World) : ¬ o.asks P a w := by
 unfold Oper.asks execOp;rw [ho];intro h;have h1 : noRoomEvent ∈ (#[] : Array Event) := h.1;simp at h1
def lastBX (md : Region.Mode) (ops : Array Oper) (m : Nat) : Bool :=
 (List.range ops.size).all (fun j => match ops[j]? with | some o => o.after.all fun e => decide (e.on < j) | none => true) &&
 (match ops[m]? with | some om => (List.range ops.size).all (fun j => j == m || om.after.any fun e => Region.binds md e && e.on == j) && om.dst.isNone && om.guard.isNone | none => false)
theorem wp_region_lastX {S : World → Prop} {id : Nat} {a : Act} {w : World} (m : Nat) (om : Oper) (hm : ops[m]? = some om) (hB : lastBX .any ops m = true) (hx : P.follows .mixedOrders = true)
  (h : wpAnyH P .any (ops.setIfInBounds m { om with op := .move (.const undef) }) (ThenLast P ops Q m) S ops.size (Array.replicate ops.size false) a w.drew) : (Code.region id ops true).wp P Q a w := by
 unfold lastBX at hB;rw [hm] at hB;simp only [Bool.and_eq_true, List.all_eq_true, List.mem_range] at hB;obtain ⟨h1, ⟨h2, h3⟩, h4⟩ := hB;have hml : m < ops.size := (Array.getElem?_eq_some_iff.1 hm).1;have hd : om.dst = none := Option.isNone_iff_eq_none.1 h3;have hgd : om.guard = none := Option.isNone_iff_eq_none.1 h4;refine wp_region_any hx (wpAny_lastX (ops' := ops.setIfInBounds m { om with op := .move (.const undef) }) m om { om with op := .move (.const undef) } (by simp) hm (by simp [hml]) (fun j hj => Array.getElem?_setIfInBounds_ne (Ne.symm hj)) rfl rfl hd hgd (nop_wpX rfl hd) (nop_asksX rfl) ?_ ?_ ops.size _ a _ (by simp) ?_ (wpAny_of_held _ _ _ _ h))
 ·intro j o hj e he;have hjl : j < ops.size := (Array.getElem?_eq_some_iff.1 hj).1;have := h1 j hjl;rw [hj] at this;have := (Array.all_eq_true'.1 this) e he
  simpa using this
 ·intro j hj hjm;have := h2 j hj;rw [Bool.or_eq_true] at this;rcases this with h5 | h5
  ·exact (hjm (by simpa using h5)).elim
  ·obtain ⟨e, he, hb⟩ := Array.any_eq_true'.1 h5;rw [Bool.and_eq_true] at hb;exact ⟨e, he, hb.1, by simpa using hb.2⟩
 ·simp [Array.getD, hml]
end
section
variable {P : Program} {md : Region.Mode} {ops : Array Oper} {Q : Exit → Act → World → Prop} {S : World → Prop} {a : Act} {w : World} {o o1 o2 o3 o4 : Oper} {fuel : Nat} {listed : Array Bool}
theorem sd_nop (i : Nat) (hi : ops[i]? = some o) (ho : o.op = .move (.const undef)) (hd : o.dst = none) (hg : o.guard = none) (hs : Region.noSelect ops = true) (hf : Region.free md ops listed i = true) (hr : (Region.ready md ops listed).contains i = true) (hS : S w) (K : wpAnyH P md ops Q S fuel (listed.setIfInBounds i true) a w) : wpAnyH P md ops Q S (fuel + 1) listed a w :=
 wpAnyH_take (v := undef) hi hs hf hr (fun c a w => by rw [hd]; exact id) (.inl ⟨by unfold Region.wanted; rw [hg], fun w _ => by unfold execOp; rw [ho]; rfl⟩) hS (by rw [hd]; exact K)
theorem dn (i : Nat) (hS : S w) (K : wpAnyH P md ops Q S fuel (listed.setIfInBounds i true) a w) (hi : ops[i]? = some o := by exact rfl) (ho : o.op = .move (.const undef) := by exact rfl) (hd : o.dst = none := by exact rfl) (hg : o.guard = none := by exact rfl) (hs : Region.noSelect ops = true := by kernel_rfl) (hf : Region.free md ops listed i = true := by kernel_rfl) (hr : (Region.ready md ops listed).contains i = true := by kernel_rfl) : wpAnyH P md ops Q S (fuel + 1) listed a w := sd_nop i hi ho hd hg hs hf hr hS K
theorem sd_at1 {i : Nat} (hi : ops[i]? = some o) (hg : o.guard = none) (h : wpList P ops (Exit.then (fun a w => S w ∧ wpAnyH P md ops Q S fuel (listed.setIfInBounds i true) a w) Q) [o] a w) : wpOp P ops Q i (fun a w => S w ∧ wpAnyH P md ops Q S fuel (listed.setIfInBounds i true) a w) a w := by
 have hw : ∀ t, Region.wanted o t = true := fun t => by simp [Region.wanted, hg]
 unfold wpList at h;rw [if_pos (hw _)] at h;unfold wpOp;simp only [hi];rw [if_pos (hw _)];rcases h with h | ⟨h1, h2⟩
 ·exact .inl (oper_then h)
 ·exact .inr ⟨h1, h2⟩
theorem sd_all2 (i j : Nat) (hr : Region.ready md ops listed = [i, j]) (hi : ops[i]? = some o1) (hj : ops[j]? = some o2) (g1 : o1.guard = none) (g2 : o2.guard = none) (h1 : wpList P ops (Exit.then (fun a w => S w ∧ wpAnyH P md ops Q S fuel (listed.setIfInBounds i true) a w) Q) [o1] a w) (h2 : wpList P ops (Exit.then (fun a w => S w ∧ wpAnyH P md ops Q S fuel (listed.setIfInBounds j true) a w) Q) [o2] a w) : wpAnyH P md ops Q S (fuel + 1) listed a w :=
 wpAnyH_all hr (by simp) fun k hk => by
  simp only [List.mem_cons, List.not_mem_nil, or_false] at hk;rcases hk with rfl | rfl
  ·exact sd_at1 hi g1 h1
  ·exact sd_at1 hj g2 h2
theorem sd_all3 (i j l : Nat) (hr : Region.ready md ops listed = [i, j, l]) (hi : ops[i]? = some o1) (hj : ops[j]? = some o2) (hl : ops[l]? = some o3) (g1 : o1.guard = none) (g2 : o2.guard = none) (g3 : o3.guard = none) (h1 : wpList P ops (Exit.then (fun a w => S w ∧ wpAnyH P md ops Q S fuel (listed.setIfInBounds i true) a w) Q) [o1] a w) (h2 : wpList P ops (Exit.then (fun a w => S w ∧ wpAnyH P md ops Q S fuel (listed.setIfInBounds j true) a w) Q) [o2] a w) (h3 : wpList P ops (Exit.then (fun a w => S w ∧ wpAnyH P md ops Q S fuel (listed.setIfInBounds l true) a w) Q) [o3] a w) : wpAnyH P md ops Q S (fuel + 1) listed a w :=
 wpAnyH_all hr (by simp) fun k hk => by
  simp only [List.mem_cons, List.not_mem_nil, or_false] at hk;rcases hk with rfl | rfl | rfl
  ·exact sd_at1 hi g1 h1
  ·exact sd_at1 hj g2 h2
  ·exact sd_at1 hl g3 h3
end
theorem rx_src {base : Nat} {L : List Ent} {w : World} {k g : Nat} {ety : TypeId} {es : List (List Fld)} {zs : List Value} (M : Mem base L w) (kk : L[k]? = some (.box g (flatV es ++ zs) ety)) : ∀ j u, (flatV es)[j]? = some u → w.cell? ((⟨g, 0, none⟩ : Addr).add j) = some u := fun j u hj => by
 obtain ⟨kb, _⟩ := M.box kk;have e0 : (⟨g, 0, none⟩ : Addr).add j = ⟨g, j, none⟩ := by unfold Addr.add; split <;> simp_all
 rw [e0, kb.cell j, List.getElem?_toArray, List.getElem?_append_left (List.getElem?_eq_some_iff.1 hj).1];exact hj
theorem lies_old {w0 w : World} {f : Fld} (h : f.lies 0 w0) (hb : Bx w0 () w) : f.lies 0 w := Fld.lies_hi (Hi.of_below hb) f h
theorem lie_old {w0 w : World} {fs : List Fld} (h : lieAll 0 w0 fs) (hb : Bx w0 () w) : lieAll 0 w fs := fun f hf => lies_old (h f hf) hb
end Go.Proofs.YthhpkjmhcolgfaaGreatDoor
