import Derived.Test.YtemjajljpoaioaaDoorM20
namespace Go.Proofs.YtemjajljpoaioaaDoor
open Go.RowKit
set_option linter.unusedVariables false
set_option linter.unusedSimpArgs false
set_option maxRecDepth 20000
set_option maxHeartbeats 8000000
def ints (l : List Int) : List Value := l.map (Value.int .i64)
def nats (l : List Nat) : List Value := l.map (fun (k : Nat) => Value.int .i64 (k : Int))
theorem ints_get (l : List Int) (i : Nat) : (ints l).toArray[i]? = (l[i]?).map (Value.int .i64) := by simp [ints]
theorem ints_set (l : List Int) (i : Nat) (v : Int) : (ints l).toArray.setIfInBounds i (.int .i64 v) = (ints (l.set i v)).toArray := by simp [ints]
theorem nats_one (l : List Nat) (k : Nat) : nats l ++ [.int .i64 (k : Int)] = nats (l ++ [k]) := by simp [nats]
def StC (w : World) (base hb wb : Nat) (c : Cd) (bla : Option Addr) (blc : Nat) (xs : List Ins) (hs : List Int) (os : List Nat) : Prop :=
  ∃ ov, Blk w wb #[.slice c.ps.la c.ps.xs.length c.ps.lc, .slice c.ns.la c.ns.xs.length c.ns.lc, .slice bla xs.length blc, .slice (some ⟨hb, 0, none⟩) xs.length xs.length, ov] 70 ∧ Blk w hb (ints hs).toArray 3 ∧
    w.ownsRow (wb + 1) 3 1 ov os.length (nats os) ∧ base ≤ hb ∧ hb < wb ∧ hs.length = xs.length ∧ xs.length ≤ 2048 ∧ os.length + unseenN hs ≤ xs.length
def Came (base hb wb : Nat) (c : Cd) (bla : Option Addr) (blc : Nat) (xs : List Ins) (o : Option (List Int × List Nat)) (e : Ending) (w' : World) : Prop :=
  e = .returned (.bool o.isSome) ∧ ∀ s, o = some s → StC w' base hb wb c bla blc xs s.1 s.2
theorem StC.below {w w' : World} {base hb wb : Nat} {c : Cd} {bla : Option Addr} {blc : Nat} {xs : List Ins} {hs : List Int} {os : List Nat} (h : StC w base hb wb c bla blc xs hs os) (b : Below w.heap.size w w') : StC w' base hb wb c bla blc xs hs os := by
  obtain ⟨ov, h1, h2, h3, h4⟩ := h
  exact ⟨ov, h1.below b h1.lt, h2.below b h2.lt, owns_below h3 b, h4⟩
theorem Blk.type {w : World} {j : Nat} {cs cs' : Array Value} {t t' : TypeId} (h : Blk w j cs t) (h' : Blk w j cs' t') : t = t' := by
  unfold Blk at h h'
  rw [h] at h'
  simp only [Option.some.injEq, Obj.cells.injEq] at h'
  exact h'.2.1
theorem own_ne {w : World} {B : Nat} {e : TypeId} {ov : Value} {n : Nat} {l : List Value} (ho : w.ownsRow B e 1 ov n l) {j : Nat} {cs : Array Value} {t : TypeId} (h : Blk w j cs t) (ht : t ≠ e) : ov.ownBlock ≠ some j := by
  rcases ho.2 with ⟨rfl, _⟩ | ⟨g, cap, cur, rfl, h1, h2, _⟩
  · simp [Value.ownBlock]
  · intro e2
    simp [Value.ownBlock] at e2
    subst e2
    exact ht (h.type (show Blk w g cur e from h2))
def Kps (wb : Nat) (w w' : World) : Prop := ∀ j cs t, Blk w j cs t → t ≠ 3 → j ≠ wb → Blk w' j cs t
theorem infoInt : (Tryd.prog.info? 3).map (fun i => (i.zero, i.size, i.bytes)) = some (some (.int .i64 0), 1, 8) := by kernel_rfl
set_option maxHeartbeats 3200000 in
theorem come_any (base hb wb : Nat) (c : Cd) (bla : Option Addr) (blc : Nat) (xs : List Ins) (hs : List Int) (os : List Nat) (t : Nat) (h : Int) (w : World) (H : StC w base hb wb c bla blc xs hs os) (h0 : 0 ≤ h) :
    Calls Tryd.prog 38 #[.pointer (some ⟨wb, 0, none⟩), .int .i64 t, .int .i64 h] w fun e w' => Came base hb wb c bla blc xs (comeP xs.length hs os t h) e w' ∧ Below hb w w' ∧ Kps wb w w' := by
  obtain ⟨i0, hinf, hz0, hz1, hz2⟩ := info_parts infoInt
  have H0 := H
  obtain ⟨ov, kW, kH, hown, hbb, hbw, hlen, hmax, hcap⟩ := H
  have q2 := kW.cell 2
  have q3 := kW.cell 3
  have q4 := kW.cell 4
  simp only [List.getElem?_toArray, List.getElem?_cons_succ, List.getElem?_cons_zero] at q2 q3 q4
  have hzw := kW.lt
  by_cases hfar : xs.length ≤ t
  · have hv : comeP xs.length hs os t h = none := by simp [comeP, hfar]
    have HV := show Hid (_ = _) from hv
    have hf : (xs.length : Int) ≤ (t : Int) := by omega
    clear hv kW kH hown hfar q3 q4
    go_enter Tryd.func38, Tryd.ntmps38
    go_wp2
    go_ret
    exact ⟨by rw [HV.out]; exact ⟨rfl, fun s hq => by simp at hq⟩, Below.refl _ _, fun _ _ _ h _ _ => h⟩
  have hf : ¬ (xs.length : Int) ≤ (t : Int) := by omega
  by_cases h64 : 64 < h
  · have hv : comeP xs.length hs os t h = none := by simp [comeP, h64]
    have HV := show Hid (_ = _) from hv
    clear hv kW kH hown hfar q3 q4
    go_enter Tryd.func38, Tryd.ntmps38
    go_wp2
    go_ret
    exact ⟨by rw [HV.out]; exact ⟨rfl, fun s hq => by simp at hq⟩, Below.refl _ _, fun _ _ _ h _ _ => h⟩
  have hlt : t < hs.length := by omega
  obtain ⟨x, hx⟩ : ∃ x, hs[t]? = some x := ⟨_, List.getElem?_eq_getElem hlt⟩
  have r := kH.cell t
  rw [ints_get, hx] at r
  simp only [Option.map_some] at r
  have hzh := kH.lt
  have hti : (t : Int) < (xs.length : Int) := by omega
  by_cases hm : x = -1
  rotate_left
  · have e1 : (x == -1) = false := by simp [hm]
    have e3 : (x != -1) = true := by simp [hm]
    have hv : comeP xs.length hs os t h = if x = h then some (hs, os) else none := by simp [comeP, hfar, h64, hx, hm]
    have HV := show Hid (_ = _) from hv
    have HX := show Hid (_ = _) from hx
    clear hv kW kH hown hx q4
    by_cases he : x = h
    · subst he
      go_enter Tryd.func38, Tryd.ntmps38
      go_wp2
      go_ret
      refine ⟨?_, Below.refl _ _, fun _ _ _ h _ _ => h⟩
      rw [HV.out]
      simp only [if_true]
      exact ⟨by simp, fun s hq => by obtain rfl := Option.some.inj hq; exact H0⟩
    · have e2 : (x == h) = false := by simp [he]
      go_enter Tryd.func38, Tryd.ntmps38
      go_wp2
      go_ret
      refine ⟨?_, Below.refl _ _, fun _ _ _ h _ _ => h⟩
      rw [HV.out, if_neg he]
      exact ⟨by simp, fun s hq => by simp at hq⟩
  subst hm
  have hv : comeP xs.length hs os t h = some (hs.set t h, os ++ [t]) := by simp [comeP, hfar, h64, hx]
  have HV := show Hid (_ = _) from hv
  have hun := unseen_set hs t h hx h0
  have HX := show Hid (_ = _) from hx
  have rf := kH.frozen t
  have wf := kW.frozen 4
  have kW1 := kW.setOther ⟨hb, t, none⟩ (by simp; omega) (.int .i64 h)
  have kH1 := kH.set t (.int .i64 h)
  rw [ints_set] at kH1
  have hown1 := ownsRow_setCell_below hown (a := ⟨hb, t, none⟩) (by simp; omega) (.int .i64 h)
  have q4' := kW1.cell 4
  simp only [List.getElem?_toArray, List.getElem?_cons_succ, List.getElem?_cons_zero] at q4'
  have b1 : Below hb w (w.setCell ⟨hb, t, none⟩ (.int .i64 h)) := (Below.refl _ _).setCell (by simp) _
  have hle : os.length ≤ 2048 := by omega
  clear hv hx
  go_enter Tryd.func38, Tryd.ntmps38
  go_wp2_with (at_builtin; refine wpList_append_lies _ rfl _ _ _ rfl (wb + 1) 3 i0 (.int .i64 0) 1 8 Tryd.underlying37 hinf hz0 hz1 hz2 rfl (by omega) ov os.length _ rfl (hown1.alloc _) ⟨w.heap.size, 0, none⟩ 1 1 [.int .i64 t] rfl rfl ?c1 ?c2 (by omega) ?c3 ?c4 ?c5 (w.heap.size + 1) ?c6 ?_)
  case c2 => rfl
  case c3 => unfold maxLen; omega
  case c4 => omega
  case c5 => omega
  intro g cg w2 hown2 hgrow hat hlt2
  have kW2 := (kW1.alloc (.cells #[.int .i64 t] 3)).grown hgrow (fun e => by have := (hown1.lt _ e).1; omega)
  have kH2 := (kH1.alloc (.cells #[.int .i64 t] 3)).grown hgrow (fun e => by have := (hown1.lt _ e).1; omega)
  have b2 : Below hb w w2 := (b1.alloc (by simp; omega) _).grown hgrow (by simp; omega) (fun k e => by have := (hown1.lt k e).1; omega)
  have e4 := kW2.cell 4
  have g4 := kW2.frozen 4
  simp only [List.getElem?_toArray, List.getElem?_cons_succ, List.getElem?_cons_zero] at e4
  have hown3 := ownsRow_setCell_below hown2 (a := ⟨wb, 4, none⟩) (by simp) (.slice (some ⟨g, 0, none⟩) (os.length + 1) cg)
  have kW3 := kW2.set 4 (.slice (some ⟨g, 0, none⟩) (os.length + 1) cg)
  have kH3 := kH2.setOther ⟨wb, 4, none⟩ (by simp; omega) (.slice (some ⟨g, 0, none⟩) (os.length + 1) cg)
  have b3 : Below hb w (w2.setCell ⟨wb, 4, none⟩ (.slice (some ⟨g, 0, none⟩) (os.length + 1) cg)) := b2.setCell (by simp; omega) _
  rw [nats_one] at hown3
  have KP : Hid (Kps wb w (w2.setCell ⟨wb, 4, none⟩ (.slice (some ⟨g, 0, none⟩) (os.length + 1) cg))) := fun j cs ty hj ht hne => by
    have j1 := hj.setOther ⟨hb, t, none⟩ (fun e => ht (by simp only at e; subst e; exact hj.type kH)) (.int .i64 h)
    have j2 := (j1.alloc (.cells #[.int .i64 t] 3)).grown hgrow (own_ne hown1 j1 ht)
    exact j2.setOther ⟨wb, 4, none⟩ hne _
  clear kW kW1 kW2 kH kH1 kH2 hown hown1 hown2 hgrow hat q2 q3 q4 q4' r rf wf b1 b2
  go_wp2
  go_ret
  refine ⟨?_, b3, KP.out⟩
  rw [HV.out]
  refine ⟨rfl, fun s hq => ?_⟩
  obtain rfl := Option.some.inj hq
  exact ⟨_, kW3, kH3, by simpa using hown3, hbb, hbw, by simp [hlen], hmax, by simp; omega⟩
theorem come_at (base hb wb : Nat) (c : Cd) (bla : Option Addr) (blc : Nat) (xs : List Ins) (hs : List Int) (os : List Nat) (t : Int) (h : Int) (w : World) (H : StC w base hb wb c bla blc xs hs os) (ht : 0 ≤ t) (h0 : 0 ≤ h) :
    Calls Tryd.prog 38 #[.pointer (some ⟨wb, 0, none⟩), .int .i64 t, .int .i64 h] w fun e w' => Came base hb wb c bla blc xs (comeP xs.length hs os t.toNat h) e w' ∧ Below hb w w' ∧ Kps wb w w' := by
  obtain ⟨n, rfl⟩ := Int.eq_ofNat_of_zero_le ht
  exact come_any base hb wb c bla blc xs hs os n h w H h0
def Env (base : Nat) (w : World) (c : Cd) (bd : Lst Ins) : Prop := Tab w ∧ 0 < base ∧ base ≤ w.heap.size ∧ PsAt base w c ∧ bd.Held Ins.flds 3 base w
theorem Env.below {base : Nat} {w w' : World} {c : Cd} {bd : Lst Ins} (h : Env base w c bd) (hb : Below base w w') : Env base w' c bd :=
  ⟨h.1.below hb h.2.1, h.2.1, Nat.le_trans h.2.2.1 hb.size, h.2.2.2.1.below hb, h.2.2.2.2.below hb⟩
theorem Env.ins {base : Nat} {w : World} {c : Cd} {bd : Lst Ins} (h : Env base w c bd) (k : Nat) (i : Ins) (hi : bd.xs[k]? = some i) : ∃ rb ro, bd.la = some ⟨rb, ro, none⟩ ∧ rb < base ∧ rb < w.heap.size ∧ w.cell? ⟨rb, ro + k * 3, none⟩ = some (.int .i64 i.op) ∧ w.cell? ⟨rb, ro + k * 3 + 1, none⟩ = some (.int .i64 i.a) ∧ w.cell? ⟨rb, ro + k * 3 + 2, none⟩ = some (.int .i64 i.b) := by
  obtain ⟨_, _, h0 | ⟨rb, ro, e, hb, hz, hr⟩⟩ := h.2.2.2.2
  · rw [h0] at hi; simp at hi
  have := hr k i hi
  exact ⟨rb, ro, e, hb, hz, this.get0 rfl, this.get 1 rfl, this.get 2 rfl⟩
theorem formed_facts {np nn nb : Nat} {lo : Int} {i : Ins} (h : fiB np nn nb lo i = true) : ∃ o : Nat, i.op = o ∧ 1 ≤ o ∧ o < 31 ∧ 0 ≤ i.a ∧ i.a < endA np nb lo (ka o) ∧ 0 ≤ i.b ∧ i.b < endB nn (ka o) := by
  simp only [fiB, isI, Bool.and_eq_true, decide_eq_true_eq] at h
  obtain ⟨⟨h1, h2⟩, ⟨⟨h3, h4⟩, h5⟩, h6⟩ := h
  refine ⟨i.op.toNat, by omega, by omega, by omega, h3, h4, h5, h6⟩
theorem tk_bounds {o : Nat} (ho : o < 31) : 0 ≤ tkC o ∧ tkC o ≤ 3 := by
  have : ∀ m : Fin 31, 0 ≤ (shp.getD m.val (0, 0, 0)).1 ∧ (shp.getD m.val (0, 0, 0)).1 ≤ 3 := by decide
  exact this ⟨o, ho⟩
theorem lv_bounds {o : Nat} (ho : o < 31) : 0 ≤ lv o ∧ lv o ≤ 2 := by
  have : ∀ m : Fin 31, 0 ≤ (shp.getD m.val (0, 0, 0)).2.1 ∧ (shp.getD m.val (0, 0, 0)).2.1 ≤ 2 := by decide
  exact this ⟨o, ho⟩
theorem takes_bounds {ps : List Pc} {nn nb : Nat} {lo : Int} {i : Ins} (h : fiB ps.length nn nb lo i = true) (hp : ∀ p ∈ ps, 0 ≤ p.pa ∧ p.pa ≤ 8) : 0 ≤ takesP ps i ∧ takesP ps i ≤ 11 := by
  obtain ⟨o, e, h1, h2, h3, h4, h5, h6⟩ := formed_facts h
  have ht := tk_bounds h2
  unfold takesP
  rw [e, Int.toNat_natCast]
  split
  · rename_i k4
    rw [k4] at h4
    simp [endA] at h4
    have hx : i.a.toNat < ps.length := by omega
    have := hp _ (List.getElem_mem hx)
    simp only [paramsAt, List.getD_eq_getElem?_getD, List.getElem?_eq_getElem hx, Option.getD_some]
    omega
  · split
    · rename_i k6
      rw [k6] at h4
      simp [endA] at h4
      omega
    · omega
set_option maxRecDepth 2000 in
set_option maxHeartbeats 3200000 in
theorem leave_any (base hb wb : Nat) (c : Cd) (bla : Option Addr) (blc : Nat) (xs : List Ins) (lo : Int) (hs : List Int) (os : List Nat) (k : Nat) (h : Int) (i : Ins) (w : World) (H : StC w base hb wb c bla blc xs hs os) (E : Env base w c ⟨bla, blc, xs⟩) (hk : hs[k]? = some h) (hi : xs[k]? = some i) (h0 : 0 ≤ h) (h64 : h ≤ 64)
    (hf : fiB c.ps.xs.length c.ns.xs.length xs.length lo i = true) (hp : ∀ p ∈ c.ps.xs, 0 ≤ p.pa ∧ p.pa ≤ 8) :
    Calls Tryd.prog 39 #[.pointer (some ⟨wb, 0, none⟩), .int .i64 k] w fun e w' => Came base hb wb c bla blc xs (leaveP c.ps.xs xs hs os k h i) e w' ∧ Below hb w w' := by
  obtain ⟨o, ho, h1, h31, ha0, haE, hb0, hbE⟩ := formed_facts hf
  have hT := takes_bounds hf hp
  obtain ⟨op, a, b⟩ := i
  simp only at ho ha0 haE hb0 hbE
  subst ho
  obtain ⟨rb, ro, ela, hrb, hrz, c0, c1, c2⟩ := E.ins k _ hi
  simp only at ela c0 c1 c2
  have hL := lv_bounds h31
  have hbB : base ≤ hb := by obtain ⟨ov, _, _, _, hbb, _⟩ := H; exact hbb
  have bI : Below w.heap.size w (w.alloc (.cells #[.int .i64 o, .int .i64 a, .int .i64 b] 31)) := (Below.refl _ _).alloc (Nat.le_refl _) _
  have kI := Blk.new w #[.int .i64 o, .int .i64 a, .int .i64 b] 31
  have HI := H.below bI
  have hBw := E.2.2.1
  have EI := E.below (bI.mono hBw)
  have keyT : ∀ y : World, Below w.heap.size w y → Calls Tryd.prog 48 #[.agg #[.slice c.ps.la c.ps.xs.length c.ps.lc, .slice c.ns.la c.ns.xs.length c.ns.lc], .agg #[.int .i64 o, .int .i64 a, .int .i64 b]] y fun e w' => e = .returned (.int .i64 (takesP c.ps.xs ⟨o, a, b⟩)) ∧ Below y.heap.size y w' := fun y hy => by
    have Ey := E.below (hy.mono hBw)
    exact takes_any base c o a b y h31 Ey.1 Ey.2.2.1 Ey.2.2.2.1 hp (fun k4 => ⟨ha0, by rw [k4] at haE; simpa [endA] using haE⟩) (fun k6 => ⟨ha0, by rw [k6] at haE; simp [endA] at haE; omega⟩)
  have keyL : ∀ y : World, Below w.heap.size w y → Calls Tryd.prog 49 #[.agg #[.int .i64 o, .int .i64 a, .int .i64 b]] y fun e w' => e = .returned (.int .i64 (lv o)) ∧ Below y.heap.size y w' := fun y hy =>
    leaves_any o a b y h31 (E.below (hy.mono hBw)).1
  have hlv : leavesP ⟨o, a, b⟩ = lv o := by simp [leavesP]
  have hval : leaveP c.ps.xs xs hs os k h ⟨o, a, b⟩ = if h < takesP c.ps.xs ⟨o, a, b⟩ then none else if (o : Int) = 17 then (if h = 1 then some (hs, os) else none) else if (o : Int) = 14 then comeP xs.length hs os a.toNat (h - takesP c.ps.xs ⟨o, a, b⟩ + lv o) else if (o : Int) = 15 then (comeP xs.length hs os (k + 1) (h - takesP c.ps.xs ⟨o, a, b⟩ + lv o)).bind fun s => comeP xs.length s.1 s.2 a.toNat (h - takesP c.ps.xs ⟨o, a, b⟩ + lv o) else comeP xs.length hs os (k + 1) (h - takesP c.ps.xs ⟨o, a, b⟩ + lv o) := by rw [leaveP, hlv]
  have HVAL := show Hid (_ = _) from hval
  clear hval hlv
  have h17 : o = 17 → takesP c.ps.xs ⟨o, a, b⟩ = 1 ∧ lv o = 0 := fun e => by subst e; exact ⟨rfl, rfl⟩
  have H17 := show Hid (_ → _) from h17
  clear h17
  generalize takesP c.ps.xs ⟨o, a, b⟩ = T at *
  generalize lv o = L at *
  obtain ⟨ov, kW, kH, hown, hbb, hbw, hlen, hmax, hcap⟩ := HI
  have hkl : k < xs.length := by rw [← hlen]; exact (List.getElem?_eq_some_iff.1 hk).1
  have hki : (k : Int) < (xs.length : Int) := by omega
  have r := kH.cell k
  rw [ints_get, hk] at r
  simp only [Option.map_some] at r
  have q0 := kW.cell 0
  have q1 := kW.cell 1
  have q2 := kW.cell 2
  have q3 := kW.cell 3
  have s0 := kI.cell 0
  have s1 := kI.cell 1
  have s2 := kI.cell 2
  simp only [List.getElem?_toArray, List.getElem?_cons_succ, List.getElem?_cons_zero] at q0 q1 q2 q3 s0 s1 s2
  have hzw := kW.lt
  have hzh := kH.lt
  have hzi := kI.lt
  have HS := show Hid (StC w base hb wb c bla blc xs hs os) from H
  obtain ⟨ov', kW', _⟩ := H
  have p2 := kW'.cell 2
  simp only [List.getElem?_toArray, List.getElem?_cons_succ, List.getElem?_cons_zero] at p2
  have hzw' := kW'.lt
  clear E kW' hk hi hf hp hown
  go_enter Tryd.func39, Tryd.ntmps39
  rw [ela] at p2 q2
  go_wp2_with fail
  generalize hWA : w.alloc (.cells #[.int .i64 o, .int .i64 a, .int .i64 b] 31) = wA at *
  have HWA := show Hid (_ = _) from hWA
  clear hWA
  go_region_held3 (fun w' => w'.cell? ⟨wb, 0, none⟩ = some (.slice c.ps.la c.ps.xs.length c.ps.lc) ∧ w'.cell? ⟨wb, 1, none⟩ = some (.slice c.ns.la c.ns.xs.length c.ns.lc) ∧ w'.cell? ⟨wb, 3, none⟩ = some (.slice (some ⟨hb, 0, none⟩) xs.length xs.length) ∧ w'.cell? ⟨hb, k, none⟩ = some (.int .i64 h) ∧ w'.cell? ⟨w.heap.size, 0, none⟩ = some (.int .i64 o) ∧ w'.cell? ⟨w.heap.size, 1, none⟩ = some (.int .i64 a) ∧ w'.cell? ⟨w.heap.size, 2, none⟩ = some (.int .i64 b)) (go_keep)
    (first
    | (go_at_call 48
       refine (keyT _ ?_).mono ?_
       · exact bI.drew
       rintro e w1 ⟨rfl, b1'⟩
       have b1 : Below wA.heap.size wA w1 := ((Below.refl _ _).drew).trans b1'
       have x0 : w1.cell? ⟨wb, 0, none⟩ = some (.slice c.ps.la c.ps.xs.length c.ps.lc) := by rw [b1.cell (p := ⟨wb, 0, none⟩) hzw]; exact q0
       have x1 : w1.cell? ⟨wb, 1, none⟩ = some (.slice c.ns.la c.ns.xs.length c.ns.lc) := by rw [b1.cell (p := ⟨wb, 1, none⟩) hzw]; exact q1
       have x3 : w1.cell? ⟨wb, 3, none⟩ = some (.slice (some ⟨hb, 0, none⟩) xs.length xs.length) := by rw [b1.cell (p := ⟨wb, 3, none⟩) hzw]; exact q3
       have x4 : w1.cell? ⟨hb, k, none⟩ = some (.int .i64 h) := by rw [b1.cell (p := ⟨hb, k, none⟩) hzh]; exact r
       have x5 : w1.cell? ⟨w.heap.size, 0, none⟩ = some (.int .i64 o) := by rw [b1.cell (p := ⟨w.heap.size, 0, none⟩) hzi]; exact s0
       have x6 : w1.cell? ⟨w.heap.size, 1, none⟩ = some (.int .i64 a) := by rw [b1.cell (p := ⟨w.heap.size, 1, none⟩) hzi]; exact s1
       have x7 : w1.cell? ⟨w.heap.size, 2, none⟩ = some (.int .i64 b) := by rw [b1.cell (p := ⟨w.heap.size, 2, none⟩) hzi]; exact s2))
  have B1 : Below w.heap.size w w1 := bI.trans (b1.mono bI.size)
  have hzi1 : w.heap.size < w1.heap.size := Nat.lt_of_lt_of_le hzi b1.size
  clear q0 q1 q2 q3 r s0 s1 s2 c0 c1 c2 p2 keyT x0 x1 x3 x4
  have hhbw : hb ≤ w.heap.size := by omega
  by_cases hlow : h < T
  · have d1 : decide (h - T < 0) = true := by simp; omega
    clear keyL H17
    go_wp2
    go_ret
    refine ⟨?_, B1.mono hhbw⟩
    rw [HVAL.out, if_pos hlow]
    exact ⟨rfl, fun s hq => by simp at hq⟩
  have d1 : decide (h - T < 0) = false := by simp; omega
  have n1 : ¬ h - T < 0 := by omega
  go_wp2_with fail
  refine (keyL _ B1).mono ?_
  rintro e w2 ⟨rfl, b2⟩
  clear keyL d1
  have B2 : Below w.heap.size w w2 := B1.trans (b2.mono B1.size)
  have y5 : w2.cell? ⟨w.heap.size, 0, none⟩ = some (.int .i64 o) := by rw [b2.cell (p := ⟨w.heap.size, 0, none⟩) hzi1]; exact x5
  have y6 : w2.cell? ⟨w.heap.size, 1, none⟩ = some (.int .i64 a) := by rw [b2.cell (p := ⟨w.heap.size, 1, none⟩) hzi1]; exact x6
  have hzi2 : w.heap.size < w2.heap.size := Nat.lt_of_lt_of_le hzi1 b2.size
  have S2 : StC w2 base hb wb c bla blc xs hs os := HS.out.below B2
  have b12 : Below wA.heap.size wA w2 := b1.trans (b2.mono b1.size)
  clear x5 x6 x7 b1' n1
  have hH0 : 0 ≤ h - T + L := by omega
  by_cases e17 : o = 17
  · obtain ⟨rfl, rfl⟩ := H17.out e17
    subst e17
    by_cases hone : h = 1
    · subst hone
      go_wp2
      go_ret
      refine ⟨?_, B2.mono hhbw⟩
      rw [HVAL.out, if_neg (by omega), if_pos (by first | rfl | trivial), if_pos (by first | rfl | trivial)]
      exact ⟨rfl, fun s hq => by obtain rfl := Option.some.inj hq; exact S2⟩
    · have d2 : (h - 1 + 0 == 0) = false := by simp; omega
      have d3 : (h - 1 == 0) = false := by simp; omega
      go_wp2
      go_ret
      refine ⟨?_, B2.mono hhbw⟩
      rw [HVAL.out, if_neg (by omega), if_pos (by rfl), if_neg hone]
      exact ⟨by simp [d3], fun s hq => by simp at hq⟩
  have g17 : ((o : Int) == 17) = false := by simp; omega
  have f17 : ¬ (o : Int) = 17 := by omega
  clear H17
  by_cases e14 : o = 14
  · subst e14
    go_wp2_with fail
    refine (come_at base hb wb c bla blc xs hs os a (h - T + L) _ S2 ha0 hH0).mono ?_
    rintro e w3 ⟨⟨rfl, hS⟩, b3, K3⟩
    go_wp2
    go_ret
    refine ⟨?_, (B2.mono hhbw).trans b3⟩
    rw [HVAL.out, if_neg (by omega)]
    exact ⟨rfl, hS⟩
  have g14 : ((o : Int) == 14) = false := by simp; omega
  have f14 : ¬ (o : Int) = 14 := by omega
  have hk1 : (0 : Int) ≤ (k : Int) + 1 := by omega
  have ek1 : ((k : Int) + 1).toNat = k + 1 := by omega
  by_cases e15 : o = 15
  · subst e15
    go_wp2_with fail
    refine (come_at base hb wb c bla blc xs hs os ((k : Int) + 1) (h - T + L) _ S2 hk1 hH0).mono ?_
    rintro e w3 ⟨⟨rfl, hS⟩, b3, K3⟩
    rw [ek1] at hS
    rw [ek1]
    cases hc1 : comeP xs.length hs os (k + 1) (h - T + L) with
    | none =>
      clear hS
      go_wp2
      go_ret
      refine ⟨?_, (B2.mono hhbw).trans b3⟩
      rw [HVAL.out, if_neg (by omega)]
      simp only [hc1]
      exact ⟨rfl, fun s hq => by simp at hq⟩
    | some s =>
      have S3 := hS s hc1
      clear hS
      have HC1 := show Hid (_ = _) from hc1
      clear hc1
      have kI3 := K3 _ _ _ (kI.below b12 kI.lt) (by decide) (by omega)
      have y6' := kI3.cell 1
      simp only [List.getElem?_toArray, List.getElem?_cons_succ, List.getElem?_cons_zero] at y6'
      have hzi3 := kI3.lt
      clear kI3
      go_wp2_with fail
      refine (come_at base hb wb c bla blc xs s.1 s.2 a (h - T + L) _ S3 ha0 hH0).mono ?_
      rintro e w4 ⟨⟨rfl, hS⟩, b4, K4⟩
      go_wp2
      go_ret
      refine ⟨?_, ((B2.mono hhbw).trans b3).trans b4⟩
      rw [HVAL.out, if_neg (by omega)]
      simp only [HC1.out]
      exact ⟨rfl, hS⟩
  have g15 : ((o : Int) == 15) = false := by simp; omega
  have f15 : ¬ (o : Int) = 15 := by omega
  go_wp2_with fail
  refine (come_at base hb wb c bla blc xs hs os ((k : Int) + 1) (h - T + L) _ S2 hk1 hH0).mono ?_
  rintro e w3 ⟨⟨rfl, hS⟩, b3, K3⟩
  rw [ek1] at hS
  rw [ek1]
  go_wp2
  go_ret
  refine ⟨?_, (B2.mono hhbw).trans b3⟩
  rw [HVAL.out, if_neg (by omega), if_neg f17, if_neg f14, if_neg f15]
  exact ⟨rfl, hS⟩
end Go.Proofs.YtemjajljpoaioaaDoor
