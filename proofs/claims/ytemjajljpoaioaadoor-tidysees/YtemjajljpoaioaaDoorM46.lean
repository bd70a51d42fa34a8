import Derived.Test.YtemjajljpoaioaaDoorCRef
namespace Go.Proofs.YtemjajljpoaioaaDoor
open Go.RowKit
set_option linter.unusedVariables false
set_option linter.unusedSimpArgs false
set_option maxRecDepth 20000
set_option maxHeartbeats 8000000
mutual
theorem Fld.lies_good {lo : Nat} {w : World} : ∀ f : Fld, f.lies lo w → f.good w.heap.size w
 | .i _, h => h
 | .d _, h => h
 | .b _, _ => trivial
 | .s _, _ => trivial
 | .l la lc es, h => by
  obtain ⟨h1, h2, h3⟩ := h
  refine ⟨h1, h2, ?_⟩
  rcases h3 with h3 | ⟨rb, ro, e, _, hz, hr⟩
  ·exact .inl h3
  ·exact .inr ⟨rb, ro, e, hz, hz, rowsLie_good rb ro es hr⟩
theorem rowsLie_good {lo : Nat} {w : World} (rb : Nat) : ∀ (ro : Nat) (es : List (List Fld)), rowsLie lo w rb ro es → RowsAt w.heap.size w rb ro es
 | _, [], _ => trivial
 | ro, e :: es, h => ⟨cellsLie_good rb ro e h.1, rowsLie_good rb (ro + e.length) es h.2⟩
theorem cellsLie_good {lo : Nat} {w : World} (rb : Nat) : ∀ (o : Nat) (fs : List Fld), cellsLie lo w rb o fs → CellsAt w.heap.size w rb o fs
 | _, [], _ => trivial
 | o, f :: fs, h => ⟨h.1, Fld.lies_good f h.2.1, cellsLie_good rb (o + 1) fs h.2.2⟩
end
theorem body_lies {w : World} {g c lo : Nat} {ys : List Ins} (H : Body w g 0 ys) (hR : ∀ i ∈ ys, RgI i) (hg : lo ≤ g) (hc : ys.length ≤ c) (hm : c ≤ maxLen) : (Fld.l (some ⟨g, 0, none⟩) c (ys.map Ins.flds)).lies lo w := by
 refine ⟨by simpa using hc, hm, ?_⟩
 by_cases hne : ys.map Ins.flds = []
 ·exact .inl hne
 ·obtain ⟨b, o, e, hs⟩ := srcI H hne
  simp only [Option.some.injEq, Addr.mk.injEq, and_true] at e
  obtain ⟨rfl, rfl⟩ := e
  exact .inr ⟨g, 0, rfl, hg, H.lt, rowsLie_of _ 0 (fun d hd => by
   obtain ⟨i, hi, rfl⟩ := List.mem_map.1 hd
   exact rg_lies (hR i hi)) hs⟩
theorem held_body {base : Nat} {w : World} {l : Lst Ins} (h : l.Held Ins.flds 3 base w) (hne : l.xs ≠ []) (hle : l.xs.length ≤ 2048) : ∃ rb ro, l.la = some ⟨rb, ro, none⟩ ∧ Body w rb ro l.xs := by
 rcases h.2.2 with q | ⟨rb, ro, e, _, hz, hr⟩
 ·exact absurd q hne
 ·refine ⟨rb, ro, e, hz, fun k i hi j v hv => ?_, hle⟩
  obtain ⟨f, hf, rfl⟩ : ∃ f, i.flds[j]? = some f ∧ f.val = v := by
   have hv : (i.flds.map Fld.val)[j]? = some v := hv
   rw [List.getElem?_map, Option.map_eq_some_iff] at hv
   exact hv
  exact (hr k i hi).get j hf
theorem held_src {α : Type} {flds : α → List Fld} {sz base : Nat} {w : World} {l : Lst α} (hz : ∀ x, (flds x).length = sz) (h0 : 0 < sz) (h : l.Held flds sz base w) : SrcOf w l.la (l.xs.map flds) := fun hne => by
 rcases h.2.2 with q | ⟨rb, ro, e, _, _, hr⟩
 ·rw [q] at hne; exact absurd rfl hne
 ·refine ⟨rb, ro, e, fun j u hj => ?_⟩
  have hd : ∀ d ∈ l.xs.map flds, d.length = sz := fun d hd => by obtain ⟨y, _, rfl⟩ := List.mem_map.1 hd; exact hz y
  have hl := (List.getElem?_eq_some_iff.1 hj).1
  rw [flatV_len hd, List.length_map] at hl
  have hq : j / sz < l.xs.length := (Nat.div_lt_iff_lt_mul h0).2 hl
  obtain ⟨x, hx⟩ : ∃ x, l.xs[j / sz]? = some x := ⟨_, List.getElem?_eq_getElem hq⟩
  have hm : j % sz < sz := Nat.mod_lt _ h0
  obtain ⟨f, hf⟩ : ∃ f, (flds x)[j % sz]? = some f := ⟨_, List.getElem?_eq_getElem (by rw [hz]; exact hm)⟩
  have h2 := flatVx_at (sz := sz) (l.xs.map flds) (j / sz) (flds x) hd (by rw [List.getElem?_map, hx]; rfl) (j % sz) f.val (by rw [List.getElem?_map, hf]; rfl)
  have e1 : j / sz * sz + j % sz = j := by rw [Nat.mul_comm]; exact Nat.div_add_mod j sz
  rw [e1, hj] at h2
  cases h2
  have := (hr _ x hx).get _ hf
  rwa [Nat.add_assoc, e1] at this
structure CdOk (c : Cd) : Prop where
 np : c.ps.xs.length ≤ 32
 le : ∀ p ∈ c.ps.xs, p.bd.xs.length ≤ 2048 ∧ p.lo ≤ 32 ∧ p.pa ≤ 8
 pa : ∀ p ∈ c.ps.xs, 0 ≤ p.pa ∧ p.pa ≤ p.lo
 fb : ∀ p ∈ c.ps.xs, Fb c.ps.xs.length c.ns.xs.length p.lo c.ps.xs p.bd.xs
theorem goodB_iff {ps : List Pc} {xs : List Ins} : goodB ps xs = true ↔ Good ps xs := by
 constructor
 ·intro h
  exact Classical.byContradiction fun q => by rw [goodB_false q] at h; cases h
 ·exact goodB_true
theorem formPc_iff {c : Cd} {p : Pc} : formPc c p = true ↔ (0 ≤ p.pa ∧ p.pa ≤ p.lo) ∧ ∀ i ∈ p.bd.xs, fiB c.ps.xs.length c.ns.xs.length p.bd.xs.length p.lo i = true := by
 unfold formPc
 rw [Bool.and_eq_true, List.all_eq_true]
 simp only [Bool.not_eq_true', Bool.or_eq_false_iff, decide_eq_false_iff_not, Int.not_lt]
theorem checkP_iff (c : Cd) : checkP c = 0 ↔ CdOk c := by
 unfold checkP
 constructor
 ·intro h
  split at h
  ·cases h
  rename_i ht
  have ht : tooB c = false := by simpa using ht
  obtain ⟨h1, h2⟩ := too_small ht
  split at h
  ·rename_i hf
   split at h
   ·rename_i hw
    unfold formB at hf
    unfold flowB at hw
    rw [List.all_eq_true] at hf hw
    exact ⟨by omega, fun p hp => by have := h2 p hp; omega, fun p hp => (formPc_iff.1 (hf p hp)).1, fun p hp => ⟨(formPc_iff.1 (hf p hp)).2, goodB_iff.1 (hw p hp)⟩⟩
   ·cases h
  ·cases h
 ·intro h
  have ht : tooB c = false := by
   unfold tooB tooPc
   rw [Bool.or_eq_false_iff]
   refine ⟨decide_eq_false (by have := h.np; omega), ?_⟩
   rw [List.any_eq_false]
   intro p hp
   have := h.le p hp
   simp only [Bool.or_eq_true, decide_eq_true_eq, not_or, Int.not_lt]
   omega
  have hf : formB c = true := by
   unfold formB
   rw [List.all_eq_true]
   exact fun p hp => formPc_iff.2 ⟨h.pa p hp, (h.fb p hp).fm⟩
  have hw : flowB c = true := by
   unfold flowB
   rw [List.all_eq_true]
   exact fun p hp => goodB_iff.2 (h.fb p hp).gd
  rw [ht, hf, hw]
  rfl
theorem Rch.congr {ps ps' : List Pc} {xs : List Ins} (e : ∀ a, paramsAt ps a = paramsAt ps' a) {k : Nat} {h : Int} (r : Rch ps xs k h) : Rch ps' xs k h := by
 induction r with
 | start => exact .start
 | @step k h i t r hi ht ih =>
  have q : takesP ps i = takesP ps' i := by unfold takesP; rw [e]
  rw [q]
  exact .step ih hi ht
theorem Fb.congr {np nn : Nat} {lo : Int} {ps ps' : List Pc} {xs : List Ins} (e : ∀ a, paramsAt ps a = paramsAt ps' a) (F : Fb np nn lo ps xs) : Fb np nn lo ps' xs := by
 refine ⟨F.fm, fun k h r => ?_⟩
 have e' : ∀ a, paramsAt ps' a = paramsAt ps a := fun a => (e a).symm
 obtain ⟨g1, g2, g3, g4⟩ := F.gd k h (r.congr e')
 refine ⟨g1, g2, fun h' r' => g3 h' (r'.congr e'), fun i hi => ?_⟩
 have q : takesP ps' i = takesP ps i := by unfold takesP; rw [e]
 rw [q]
 exact g4 i hi
def TidPc (p q : Pc) : Prop := q.nm = p.nm ∧ q.open_ = p.open_ ∧ q.pa = p.pa ∧ q.lo = p.lo ∧ ∃ k, tidP k p.bd.xs = some q.bd.xs
structure TidC (c d : Cd) : Prop where
 ns : d.ns.xs = c.ns.xs
 len : d.ps.xs.length = c.ps.xs.length
 pc : ∀ (k : Nat) (p : Pc), c.ps.xs[k]? = some p → ∃ q, d.ps.xs[k]? = some q ∧ TidPc p q
theorem tidP_one {m n : Nat} : ∀ {b x y : List Ins}, tidP m b = some x → tidP n b = some y → x = y := by
 induction m generalizing n with
 | zero => intro b x y h; cases h
 | succ m ih =>
  intro b x y h1 h2
  cases n with
  | zero => cases h2
  | succ n =>
   unfold tidP at h1 h2
   by_cases e : rndP b = b
   ·rw [if_pos e] at h1 h2
    rw [h1] at h2
    exact Option.some.inj h2
   ·rw [if_neg e] at h1 h2
    exact ih h1 h2
theorem tidP_fix {np nn : Nat} {lo : Int} {ps : List Pc} {b x : List Ins} {k : Nat} (F : Fb np nn lo ps b) (hp : ∀ q ∈ ps, 0 ≤ q.pa) (h : tidP k b = some x) : rndP x = x ∧ Fb np nn lo ps x ∧ x.length ≤ b.length := by
 obtain ⟨y, h1, h2, h3⟩ := tidP_end hp (lft b + 1) b F (Nat.lt_succ_self _)
 obtain rfl := tidP_one h h1
 exact ⟨h2, h3, tidP_len hp _ _ _ F h⟩
theorem TidC.inv {c d : Cd} (T : TidC c d) {q : Pc} (h : q ∈ d.ps.xs) : ∃ p ∈ c.ps.xs, TidPc p q := by
 obtain ⟨k, hk⟩ := List.mem_iff_getElem?.1 h
 have hl := (List.getElem?_eq_some_iff.1 hk).1
 obtain ⟨p, hp⟩ : ∃ p, c.ps.xs[k]? = some p := ⟨_, List.getElem?_eq_getElem (by rw [← T.len]; exact hl)⟩
 obtain ⟨q', h1, h2⟩ := T.pc k p hp
 rw [hk] at h1
 cases h1
 exact ⟨p, List.mem_of_getElem? hp, h2⟩
theorem TidC.params {c d : Cd} (T : TidC c d) (a : Int) : paramsAt c.ps.xs a = paramsAt d.ps.xs a := by
 unfold paramsAt
 rw [List.getD_eq_getElem?_getD, List.getD_eq_getElem?_getD]
 cases e : c.ps.xs[a.toNat]? with
 | none =>
  have := List.getElem?_eq_none_iff.1 e
  rw [List.getElem?_eq_none (by rw [T.len]; exact this)]
 | some p =>
  obtain ⟨q, h1, h2⟩ := T.pc _ p e
  rw [h1]
  exact h2.2.2.1.symm
theorem TidC.ok {c d : Cd} (T : TidC c d) (h : CdOk c) : CdOk d ∧ ∀ q ∈ d.ps.xs, rndP q.bd.xs = q.bd.xs := by
 have hp : ∀ q ∈ c.ps.xs, 0 ≤ q.pa := fun q hq => (h.pa q hq).1
 have key : ∀ q ∈ d.ps.xs, (q.bd.xs.length ≤ 2048 ∧ q.lo ≤ 32 ∧ q.pa ≤ 8) ∧ (0 ≤ q.pa ∧ q.pa ≤ q.lo) ∧ Fb c.ps.xs.length c.ns.xs.length q.lo c.ps.xs q.bd.xs ∧ rndP q.bd.xs = q.bd.xs := fun q hq => by
  obtain ⟨p, hpm, _, _, e3, e4, k, hk⟩ := T.inv hq
  obtain ⟨f1, f2, f3⟩ := tidP_fix (h.fb p hpm) hp hk
  have h1 := h.le p hpm
  have h2 := h.pa p hpm
  rw [e3, e4]
  exact ⟨⟨by omega, h1.2⟩, h2, f2, f1⟩
 refine ⟨⟨by rw [T.len]; exact h.np, fun q hq => (key q hq).1, fun q hq => (key q hq).2.1, fun q hq => ?_⟩, fun q hq => (key q hq).2.2.2⟩
 rw [T.len, T.ns]
 exact (key q hq).2.2.1.congr T.params
theorem sd_two {P : Program} {md : Region.Mode} {ops : Array Oper} {Q : Exit → Act → World → Prop} {S : World → Prop} {fuel : Nat} {listed : Array Bool} {a : Act} {w : World} {o o' : Oper} (i j : Nat) (hi : ops[i]? = some o) (hj : ops[j]? = some o') (hr : Region.ready md ops listed = [i, j]) (hg : o.guard = none) (hg' : o'.guard = none)
  (h : wpList P ops (Exit.then (fun a w => S w ∧ wpAnyH P md ops Q S fuel (listed.setIfInBounds i true) a w) Q) [o] a w)
  (h' : wpList P ops (Exit.then (fun a w => S w ∧ wpAnyH P md ops Q S fuel (listed.setIfInBounds j true) a w) Q) [o'] a w) : wpAnyH P md ops Q S (fuel + 1) listed a w :=
 wpAnyH_all hr (by simp) fun k hk => by
  have key : ∀ (k : Nat) (o : Oper), ops[k]? = some o → o.guard = none → wpList P ops (Exit.then (fun a w => S w ∧ wpAnyH P md ops Q S fuel (listed.setIfInBounds k true) a w) Q) [o] a w → wpOp P ops Q k (fun a' w' => S w' ∧ wpAnyH P md ops Q S fuel (listed.setIfInBounds k true) a' w') a w := fun k o hk hg h => by
   have hw : ∀ t, Region.wanted o t = true := fun t => by simp [Region.wanted, hg]
   unfold wpList at h
   rw [if_pos (hw _)] at h
   unfold wpOp
   simp only [hk]
   rw [if_pos (hw _)]
   rcases h with h | ⟨h1, h2⟩
   ·exact .inl (oper_then h)
   ·exact .inr ⟨h1, h2⟩
  rcases (show k = i ∨ k = j by simpa using hk) with rfl | rfl
  ·exact key _ _ hi hg h
  ·exact key _ _ hj hg' h'
theorem Mm.clo {w0 w w' : World} {E : List Ent} {sz : Nat} {ety : TypeId} {la : Option Addr} {gss : List (List Fld)} {e : Ending} (M : Mm (Bx w0) (fun _ => False) w0 E () w) (hb : Below w.heap.size w w') (hq : CloQ sz ety la gss w w' e) (hs : SrcOf w la gss) (h0 : 0 < sz) : ∃ pa pc e0, e = .returned (.slice pa gss.length pc) ∧ Mm (Bx w0) (fun _ => False) w0 (e0 :: E) () w' ∧ (gss = [] ∨ ∃ g zs, e0 = .box g (flatV gss ++ zs) ety ∧ pa = some ⟨g, 0, none⟩ ∧ RxOk sz pc gss zs) ∧ gss.length ≤ pc ∧ pc ≤ maxLen := by
 rcases hq with ⟨rfl, rfl⟩ | ⟨g, c, zs, rfl, ok, hg, hk⟩
 ·have hg : gss = [] := by
   cases gss with
   | nil => rfl
   | cons d r => obtain ⟨b, o, q, _⟩ := hs (by simp); cases q
  subst hg
  exact ⟨none, 0, .val [], rfl, (M.aft hb).join [] okf_nil, .inl rfl, Nat.le_refl _, Nat.zero_le _⟩
 ·exact ⟨some ⟨g, 0, none⟩, c, _, rfl, M.newbox hb hg hk, .inr ⟨g, zs, rfl, rfl, ok⟩, ok.fits h0, ok.most⟩
theorem Mm.clov {w0 w w' : World} {E : List Ent} {sz : Nat} {ety : TypeId} {la : Option Addr} {gss : List (List Fld)} {e : Ending} (M : Mm (Bx w0) (fun _ => False) w0 E () w) (hb : Below w.heap.size w w') (hq : CloQ sz ety la gss w w' e) (hs : SrcOf w la gss) (h0 : 0 < sz) (hl : ∀ d ∈ gss, ∀ lo w, lieAll lo w d) : ∃ pa pc, e = .returned (.slice pa gss.length pc) ∧ Mm (Bx w0) (fun _ => False) w0 (.val [.l pa pc gss] :: E) () w' := by
 rcases hq with ⟨rfl, rfl⟩ | ⟨g, c, zs, rfl, ok, hg, hk⟩
 ·have hg : gss = [] := by
   cases gss with
   | nil => rfl
   | cons d r => obtain ⟨b, o, q, _⟩ := hs (by simp); cases q
  subst hg
  exact ⟨none, 0, rfl, M.ret (But.of_below hb) (M.st.trans (hb.mono M.mem.le)) (lie_cons (lies_nil _ _) (lie_nil _ _))⟩
 ·refine ⟨some ⟨g, 0, none⟩, c, rfl, M.ret (But.of_below hb) (M.st.trans (hb.mono M.mem.le)) (lie_cons ⟨ok.fits h0, ok.most, ?_⟩ (lie_nil _ _))⟩
  refine .inr ⟨g, 0, rfl, hg, hk.lt, rowsLie_of _ 0 (fun d hd => hl d hd _ _) fun j v hv => ?_⟩
  rw [hk.cell, Nat.zero_add, List.getElem?_toArray, List.getElem?_append_left (List.getElem?_eq_some_iff.1 hv).1]
  exact hv
def qsOf (ps : List Pc) (bs : List (Lst Ins)) : List Pc := ps.mapIdx fun j p => match bs[j]? with | some l => { p with bd := l } | none => p
theorem qsOf_len (ps : List Pc) (bs : List (Lst Ins)) : (qsOf ps bs).length = ps.length := by simp [qsOf]
theorem qsOf_nil (ps : List Pc) : qsOf ps [] = ps := by
 apply List.ext_getElem?
 intro k
 simp [qsOf]
theorem qsOf_get {ps : List Pc} {bs : List (Lst Ins)} {k : Nat} {p : Pc} (h : ps[k]? = some p) : (qsOf ps bs)[k]? = some (match bs[k]? with | some l => { p with bd := l } | none => p) := by
 unfold qsOf
 rw [List.getElem?_mapIdx, h]
 rfl
theorem qsOf_at {ps : List Pc} {bs : List (Lst Ins)} {k : Nat} {p : Pc} (h : ps[k]? = some p) (hb : bs.length = k) : (qsOf ps bs)[k]? = some p := by
 rw [qsOf_get h, List.getElem?_eq_none (by omega)]
theorem qsOf_set {ps : List Pc} {bs : List (Lst Ins)} {k : Nat} {p : Pc} {l : Lst Ins} (h : ps[k]? = some p) (hb : bs.length = k) : (qsOf ps bs).set k { p with bd := l } = qsOf ps (bs ++ [l]) := by
 apply List.ext_getElem?
 intro j
 have hl := (List.getElem?_eq_some_iff.1 h).1
 by_cases e : k = j
 ·subst e
  rw [List.getElem?_set_self (by rw [qsOf_len]; exact hl), qsOf_get h, List.getElem?_append_right (by omega), hb]
  simp
 ·rw [List.getElem?_set_ne e]
  unfold qsOf
  rw [List.getElem?_mapIdx, List.getElem?_mapIdx]
  by_cases q : j < k
  ·rw [List.getElem?_append_left (by omega)]
  ·rw [List.getElem?_eq_none (l := bs) (by omega), List.getElem?_eq_none (l := bs ++ [l]) (by simp; omega)]
theorem pcs5 {ps : List Pc} : ∀ d ∈ ps.map Pc.flds, d.length = 5 := fun d hd => by obtain ⟨y, _, rfl⟩ := List.mem_map.1 hd; rfl
theorem px_len {c : Nat} {ys ys' : List Pc} {zs : List Value} (h : RxOk 5 c (ys.map Pc.flds) zs) (hl : ys'.length = ys.length) : RxOk 5 c (ys'.map Pc.flds) zs := by
 refine ⟨?_, pcs5, h.most⟩
 have := h.len
 rw [List.length_append, flatV_len (sz := 5) pcs5, List.length_map] at this ⊢
 rw [hl]
 exact this
theorem flatBd : ∀ (ys : List Pc) (zs : List Value) (c : Nat) (p : Pc) (l : Lst Ins), ys[c]? = some p → (flatV (ys.map Pc.flds) ++ zs).set (0 + c * 5 + 4) (.slice l.la l.xs.length l.lc) = flatV ((ys.set c { p with bd := l }).map Pc.flds) ++ zs
 | [], _, _, _, _, h => by simp at h
 | y :: ys, zs, 0, p, l, h => by
  obtain rfl : y = p := by simpa using h
  rw [← Lst.val Ins.flds l]
  rfl
 | y :: ys, zs, c + 1, p, l, h => by
  have := flatBd ys zs c p l (by simpa using h)
  rw [show 0 + (c + 1) * 5 + 4 = (0 + c * 5 + 4) + 1 + 1 + 1 + 1 + 1 by omega]
  show _ :: _ :: _ :: _ :: _ :: (flatV (ys.map Pc.flds) ++ zs).set (0 + c * 5 + 4) (.slice l.la l.xs.length l.lc) = _
  rw [this]
  rfl
theorem sw_setBd {P : Program} {ops : Array Oper} {Q : Exit → Act → World → Prop} {a : Act} {w w0 : World} {rest : List Oper} {o : Oper} {N : Nat} {L : List (Nat × Value)} {t : TypeId} {x y : Operand} {σ : Type} {X : σ → World → Prop} {T : Nat → Prop} {E : List Ent} {s : σ} (F : Fm N L a) (M : Mm X T w0 E s w) (k : Nat) {b c : Nat} {ys : List Pc} {zs : List Value} {ty : TypeId} {p : Pc} (l : Lst Ins) (h : Is o none (.store t x y)) (hx : opv L x = some (.pointer (some ⟨b, 0 + c * 5 + 4, none⟩))) (hv : opv L y = some (.slice l.la l.xs.length l.lc)) (hk : E[k]? = some (.box b (flatV (ys.map Pc.flds) ++ zs) ty)) (hj : ys[c]? = some p) (hi : (P.info? t).map (·.size) = some 1) (K : ∀ w', Mm X T w0 (E.set k (.box b (flatV ((ys.set c { p with bd := l }).map Pc.flds) ++ zs) ty)) s w' → wpList P ops Q rest a w') : wpList P ops Q (o :: rest) a w := by
 refine sw_set F M k h hx hv hk hi ?_ rfl rfl fun w' M' => K w' (by rw [← flatBd ys zs c p l hj]; exact M')
 have hl := (List.getElem?_eq_some_iff.1 hj).1
 have h1 : (flatV (ys.map Pc.flds)).length = ys.length * 5 := by rw [flatV_len (sz := 5) pcs5, List.length_map]
 simp only [Nat.blt_eq, List.length_append]
 omega
theorem tid_lies {w0 w : World} {E : List Ent} {c : Cd} {bs : List (Lst Ins)} {g pc : Nat} {zs : List Value} {ty : TypeId} (M : Mm (Bx w0) (fun _ => False) w0 E () w) (OK : CdOk c) (hn : bs.length = c.ps.xs.length) (ok : RxOk 5 pc (c.ps.xs.map Pc.flds) zs) (k1 : Nat) (h1 : E[k1]? = some (.box g (flatV ((qsOf c.ps.xs bs).map Pc.flds) ++ zs) ty)) (k2 : Nat) (h2 : E[k2]? = some (.val (bs.map (Lst.fld Ins.flds)))) : (Fld.l (some ⟨g, 0, none⟩) pc ((qsOf c.ps.xs bs).map Pc.flds)).lies w0.heap.size w := by
 have ok2 := px_len (ys' := qsOf c.ps.xs bs) ok (qsOf_len _ _)
 obtain ⟨kb, hb⟩ := M.mem.box h1
 refine ⟨by simpa using ok2.fits (by decide), ok2.most, .inr ⟨g, 0, rfl, hb, kb.lt, rowsLie_of _ 0 (fun d hd => ?_) fun j v hv => ?_⟩⟩
 ·obtain ⟨x, hx, rfl⟩ := List.mem_map.1 hd
  obtain ⟨i, hi⟩ := List.mem_iff_getElem?.1 hx
  have hl : i < c.ps.xs.length := by rw [← qsOf_len c.ps.xs bs]; exact (List.getElem?_eq_some_iff.1 hi).1
  obtain ⟨p, hp⟩ : ∃ p, c.ps.xs[i]? = some p := ⟨_, List.getElem?_eq_getElem hl⟩
  obtain ⟨l, hbl⟩ : ∃ l, bs[i]? = some l := ⟨_, List.getElem?_eq_getElem (by omega)⟩
  rw [qsOf_get hp, hbl] at hi
  obtain rfl := Option.some.inj hi
  have hpm := List.mem_of_getElem? hp
  have a1 := OK.le p hpm
  have a2 := OK.pa p hpm
  intro f hf
  simp only [Pc.flds, List.mem_cons, List.not_mem_nil, or_false] at hf
  rcases hf with rfl | rfl | rfl | rfl | rfl
  ·trivial
  ·trivial
  ·show _ ≤ p.pa ∧ p.pa ≤ _; omega
  ·show _ ≤ p.lo ∧ p.lo ≤ _; omega
  ·exact M.mem.val h2 _ (List.mem_map.2 ⟨l, List.mem_of_getElem? hbl, rfl⟩)
 ·rw [kb.cell, Nat.zero_add, List.getElem?_toArray, List.getElem?_append_left (List.getElem?_eq_some_iff.1 hv).1]
  exact hv
def Cd.fs (c : Cd) : List Fld := [c.ps.fld Pc.flds, c.ns.fld nameFlds]
theorem Cd.held {lo : Nat} {w : World} {c : Cd} (h : lieAll lo w c.fs) : c.ps.Held Pc.flds 5 w.heap.size w ∧ c.ns.Held nameFlds 1 w.heap.size w :=
 ⟨Lst.held Pc.len (Fld.lies_good _ (h _ (by simp [Cd.fs]))), Lst.held nameFlds_len (Fld.lies_good _ (h _ (by simp [Cd.fs])))⟩
end Go.Proofs.YtemjajljpoaioaaDoor
