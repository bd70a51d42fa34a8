import Derived.Test.YtackcbpabjhmpaaGreatM38
namespace Go.Proofs.YtackcbpabjhmpaaGreat
open Go.RowKit
set_option linter.unusedVariables false
set_option linter.unusedSimpArgs false
section
variable {P : Program} {ops : Array Oper} {Q : Exit → Act → World → Prop} {a : Act} {w w' : World} {rest : List Oper} {o : Oper}
theorem run_callv {f : FuncId} {x : Operand} {xs : Array Operand} {ts : Array TypeId} (hE : enters P f = true) (ho : o.op = .call { callee := .value x, args := xs, argTypes := ts }) (hx : a.eval x = .func (.func f) #[] #[]) : (execOp a.eval o).run P w = .ok (.enter f (xs.map a.eval)) w := by
 unfold execOp
 rw [ho]
 simp [resolve, Deferred.ofValue, invoke, hx, run_enters hE]
theorem ol_callv (hg : o.guard = none) {f : FuncId} (hE : enters P f = true) {x : Operand} {xs : Array Operand} {ts : Array TypeId} (ho : o.op = .call { callee := .value x, args := xs, argTypes := ts }) (hx : a.eval x = .func (.func f) #[] #[]) {vs : Array Value} (hv : xs.map a.eval = vs) {R : Ending → World → Prop} (hc : Calls P f vs w R)
  (h : ∀ e w', R e w' → (∃ v, e = .returned v ∧ wpList P ops Q rest (a.put o.dst v) w') ∨ (∃ ch, e = .panicked ch ∧ Q (.panic ch) a w')) : wpList P ops Q (o :: rest) a w :=
 wpList_plain hg fun K hK => by
  unfold Oper.wp
  rw [run_callv hE ho hx, hv, Oper.upon_enter]
  refine hc.mono ?_
  intro e w' hR
  rcases h e w' hR with ⟨v, rfl, hw⟩ | ⟨ch, rfl, hq⟩
  ·exact hK _ _ hw
  ·exact hq
theorem ol_callv_on {j : Nat} {x : Bool} (hg : o.guard = some (j, x)) {d : Nat} (hd : (ops[j]?).bind (·.dst) = some d) (hlt : d < a.tmps.size) (hv0 : a.eval (.tmp d) = .bool x) {f : FuncId} (hE : enters P f = true) {y : Operand} {xs : Array Operand} {ts : Array TypeId} (ho : o.op = .call { callee := .value y, args := xs, argTypes := ts }) (hx : a.eval y = .func (.func f) #[] #[]) {vs : Array Value} (hv : xs.map a.eval = vs) {R : Ending → World → Prop} (hc : Calls P f vs w R)
  (h : ∀ e w', R e w' → ∃ v, e = .returned v ∧ wpList P ops Q rest (a.put o.dst v) w') : wpList P ops Q (o :: rest) a w :=
 wpList_on (by
  unfold Region.wanted
  rw [hg]
  simp only [yielded, hd, Option.bind_some]
  have : a.tmps[d]? = some (.bool x) := by
   rw [Array.getElem?_eq_getElem hlt]
   have := hv0
   unfold Act.eval at this
   simp only [Array.getD_eq_getD_getElem?, Array.getElem?_eq_getElem hlt, Option.getD_some] at this
   rw [this]
  rw [this]
  simp) fun K hK => by
  unfold Oper.wp
  rw [run_callv hE ho hx, hv, Oper.upon_enter]
  refine hc.mono ?_
  intro e w' hR
  obtain ⟨v, rfl, hw⟩ := h e w' hR
  exact hK _ _ hw
end
def WalkX (f : FuncId) (K : Kd) : Prop :=
 enters Tryz.prog f = true ∧ ∀ b xb t s w, RdAt w b s → Blk w xb (zArr K.sc) t → xb ≠ b → s.length ≤ 1099511627000 → Calls Tryz.prog f #[ptr b, ptr xb] w fun e w' =>
  But (fun k => k = b ∨ k = xb) w w' ∧ ((∃ er, K.rd s = .error er ∧ er ≠ 0 ∧ e = refusedE er) ∨ ∃ fs r, K.rd s = .ok (pvAll fs, r) ∧ fitsAll K.sc fs ∧ e = .returned (.tuple #[]) ∧ RdAt w' b r ∧ Blk w' xb (fs.map Fld.val).toArray t ∧ lieAll w.heap.size w' fs)
def MayX (f : FuncId) (K : Kd) : Prop :=
 enters Tryz.prog f = true ∧ ∀ lo fs w, fitsAll K.sc fs → lieAll lo w fs → Calls Tryz.prog f #[K.wrap (fs.map Fld.val).toArray] w fun e w' => ∃ b, e = .returned (.bool b) ∧ (b = true ↔ K.may (pvAll fs)) ∧ Below w.heap.size w w'
theorem zArr_zero (scs : List Sc) : ZeroAt (zArr scs) 0 scs := fun j c hj => by
 rw [Nat.zero_add]
 simp [zArr, hj]
theorem walk_of {f : FuncId} {K : Kd} (hr : K.rd = readAll K.sc) (hE : enters Tryz.prog f = true) (h : ∀ b xb cs t s w, At b xb 0 cs t K.sc s w → Calls Tryz.prog f #[ptr b, ptr xb] w fun e w' => RdE b xb 0 cs t K.sc s w e w') : WalkX f K :=
 ⟨hE, fun b xb t s w h1 h2 h3 h4 => (h b xb (zArr K.sc) t s w ⟨h1, h2, h3, zArr_zero _, h4⟩).mono fun e w' ⟨q1, q2⟩ => ⟨q1, by
   rcases q2 with ⟨er, e1, e2⟩ | ⟨fs, r, e1, e2, e3, e4, e5⟩
   ·exact .inl ⟨er, by rw [hr]; exact e1, readAll_ne _ _ _ e1, e2⟩
   ·have hfit := readAll_fits _ _ _ _ e1
    exact .inr ⟨fs, r, by rw [hr]; exact e1, hfit, e2, e3, by rw [putAt_all (by rw [zArr_size, List.length_map, fits_len hfit])] at e4; exact e4, e5⟩⟩⟩
theorem may_of {X : Type} {f : FuncId} {wr : Array Value → Value} {sc : List Sc} {flds : X → List Fld} {m : X → Bool} (of : ∀ e, fitsAll sc e → ∃ x, flds x = e) (mpv : ∀ x y, pvAll (flds x) = pvAll (flds y) → m x = m y) (hE : enters Tryz.prog f = true)
  (h : ∀ x w, fitsAll sc (flds x) → goods w.heap.size w (flds x) → Calls Tryz.prog f #[wr ((flds x).map Fld.val).toArray] w fun e w' => e = .returned (.bool (m x)) ∧ Below w.heap.size w w') : MayX f { thingK sc flds m with wrap := wr } :=
 ⟨hE, fun lo fs w hfit hl => by
  obtain ⟨x, rfl⟩ := of fs hfit
  refine (h x w hfit hl.goods).mono ?_
  rintro e w' ⟨rfl, hb⟩
  exact ⟨m x, rfl, (mayK (sc := sc) mpv x).symm, hb⟩⟩
set_option maxHeartbeats 800000 in
theorem attempt_x (f : FuncId) (hE : enters Tryz.prog f = true) (caps : Array Value) (w : World) (R : Int → World → Prop)
  (hdo : Calls Tryz.prog f caps (w.alloc (.cells #[.int .i64 0] 22)) fun e w1 => ((e = .returned (.tuple #[]) ∧ R 0 w1) ∨ (∃ er, e = refusedE er ∧ R er w1)) ∧ w1.cell? ⟨w.heap.size, 0, none⟩ = some (.int .i64 0) ∧ w1.frozen? ⟨w.heap.size, 0, none⟩ = false) :
  Calls Tryz.prog 117 #[.func (.func f) #[] caps] w fun e w' => AttE R w e w' := by
 have hmf : ∀ (fn : Fn) (first cap : Array Value) (w : World), (Instr.makeFunc fn first cap).run Tryz.prog w = .ok (.func fn first cap) w := fun _ _ _ _ => rfl
 have hcf : ∀ vs (w : World), (callFunc f vs).run Tryz.prog w = .ok (.enter f vs) w := fun vs w => run_enters hE
 unfold refusedE at hdo
 go_enter_defers Tryz.func117, Tryz.ntmps117
 go_wp2_with fail
 refine hdo.mono ?_
 rintro e w1 ⟨⟨rfl, hR⟩ | ⟨er, rfl, hR⟩, hc, hz⟩
 ·go_wp2
  refine leaves_cons (f := 214) (args := #[.pointer (some ⟨w.heap.size, 0, none⟩)]) (by simp) (by simp [go_sem]) ?_
  refine (catch_idle ⟨w.heap.size, 0, none⟩ _).mono ?_
  rintro e u' w'' ⟨rfl, rfl, rfl⟩
  have hs : (w1.setCell ⟨w.heap.size, 0, none⟩ (.int .i64 0)).cell? ⟨w.heap.size, 0, none⟩ = some (.int .i64 0) := World.cell?_setCell_same _ _ _ hc
  simp only [Leaves, settle]
  exact ⟨.int .i64 0, by simp [results, Tryz.results117, go_sem, hs], 0, w1, hR, rfl, rfl⟩
 ·go_wp2
  refine leaves_cons (f := 214) (args := #[.pointer (some ⟨w.heap.size, 0, none⟩)]) (by simp) (by simp [go_sem]) ?_
  refine (catch_panicking ⟨w.heap.size, 0, none⟩ 0 er [] _ hc hz).mono ?_
  rintro e u' w'' ⟨rfl, rfl, rfl⟩
  have hs : (w1.setCell ⟨w.heap.size, 0, none⟩ (.int .i64 er)).cell? ⟨w.heap.size, 0, none⟩ = some (.int .i64 er) := World.cell?_setCell_same _ _ _ hc
  simp only [settle, List.dropWhile_nil]
  simp only [Leaves]
  exact ⟨.int .i64 er, by simp [results, Tryz.results117, go_sem, hs], er, w1, hR, rfl, rfl⟩
def TrX (K : Kd) (b xb : Nat) (t : TypeId) (s : List UInt8) (w : World) (er : Int) (w1 : World) : Prop :=
 But (fun k => k = b ∨ k = xb) w w1 ∧ ((er ≠ 0 ∧ (K.rd s = .error er ∨ (er = 4 ∧ ∃ vs c r, K.rd s = .ok (vs, c :: r)))) ∨ (er = 0 ∧ ∃ fs, K.rd s = .ok (pvAll fs, []) ∧ fitsAll K.sc fs ∧ Blk w1 xb (fs.map Fld.val).toArray t ∧ lieAll w.heap.size w1 fs))
theorem fr_three {fn : Func} {x y z : Value} {N : Nat} (h : fn.ntmps = N) (h1 : 3 ≤ N) : Fr N [(0, x), (1, y), (2, z)] { tmps := #[x, y, z] ++ Array.replicate (fn.ntmps - (#[x, y, z] : Array Value).size) undef, defers := [] } := by
 refine ⟨by simp; omega, rfl, fun p hp => ?_⟩
 simp only [Act.eval, Array.getD_eq_getD_getElem?]
 rcases List.mem_cons.1 hp with rfl | hp
 ·rw [Array.getElem?_append_left (by simp)]; rfl
 rcases List.mem_cons.1 hp with rfl | hp
 ·rw [Array.getElem?_append_left (by simp)]; rfl
 ·rw [List.mem_singleton.1 hp, Array.getElem?_append_left (by simp)]; rfl
theorem clo_x {f wf id0 id1 : Nat} {fn : Func} {K : Kd} {tw tp : TypeId} {ts ts' : Array TypeId} {a1 a2 a3 b1 b2 : Oper} {fb pv b xb : Nat} {t tf tq : TypeId} {s : List UInt8} {w : World} (hW : WalkX wf K) (hf : Tryz.prog.funcs[f]? = some fn) (hb : fn.body = some (Code.seq (Code.region id0 #[a1, a2, a3] false) (Code.region id1 #[b1, b2] false))) (hN : fn.ntmps = 8) (hres : fn.results = #[])
  (h1 : Is a1 (some 3) (.load tw (.tmp 0))) (h2 : Is a2 (some 4) (.load tp (.tmp 1))) (h3 : Is a3 (some 5) (.call { callee := .value (.tmp 3), args := #[.tmp 4, .tmp 2], argTypes := ts })) (h4 : Is b1 (some 6) (.load tp (.tmp 1))) (h5 : Is b2 (some 7) (.call { callee := .value (.func 121), args := #[.tmp 6], argTypes := ts' }))
  (hw : cellT Tryz.prog tw = true) (hp : cellT Tryz.prog tp = true) (kf : Blk w fb #[.func (.func wf) #[] #[]] tf) (kp : Blk w pv #[ptr b] tq) (hd : pv ≠ b ∧ pv ≠ xb) (rd : RdAt w b s) (kx : Blk w xb (zArr K.sc) t) (hne : xb ≠ b) (hL : s.length ≤ 1000000) :
  Calls Tryz.prog f #[ptr fb, ptr pv, ptr xb] w fun e w1 => (e = .returned (.tuple #[]) ∧ TrX K b xb t s w 0 w1) ∨ (∃ er, e = refusedE er ∧ TrX K b xb t s w er w1) := by
 have c0 : w.cell? ⟨fb, 0, none⟩ = some (.func (.func wf) #[] #[]) := (kf.cell 0).trans rfl
 have c1 : ∀ w' : World, Blk w' pv #[ptr b] tq → w'.cell? ⟨pv, 0, none⟩ = some (ptr b) := fun w' k => (k.cell 0).trans rfl
 obtain ⟨d1, hu1, hr1⟩ := cellT_out hw
 obtain ⟨d2, hu2, hr2⟩ := cellT_out hp
 refine calls_of_wp hf hb ?_
 have F := fr_three (x := ptr fb) (y := ptr pv) (z := ptr xb) hN (by omega)
 generalize ({ tmps := #[ptr fb, ptr pv, ptr xb] ++ Array.replicate (fn.ntmps - (#[ptr fb, ptr pv, ptr xb] : Array Value).size) undef, defers := [] } : Act) = A at F ⊢
 refine wp_seq (wp_region_list ?_)
 show wpList _ _ _ [a1, a2, a3] _ _
 refine ol_cell h1.2.2 h1.2.1 (F.get (by simp : (0, ptr fb) ∈ _)) c0 hu1 hr1 ?_
 rw [h1.1]
 have F1 := F.set (i := 3) (v := .func (.func wf) #[] #[]) (by omega) rfl
 refine ol_cell h2.2.2 h2.2.1 (F1.get (by simp : (1, ptr pv) ∈ _)) (c1 w kp) hu2 hr2 ?_
 rw [h2.1]
 have F2 := F1.set (i := 4) (v := ptr b) (by omega) rfl
 refine ol_callv h3.2.2 hW.1 h3.2.1 (F2.get (by simp : (3, Value.func (.func wf) #[] #[]) ∈ _)) (vs := #[ptr b, ptr xb]) (by rw [List.map_toArray]; simp only [List.map_cons, List.map_nil]; rw [F2.get (by simp : (4, ptr b) ∈ _), F2.get (by simp : (2, ptr xb) ∈ _)]) (hW.2 b xb t s w rd kx hne (by omega)) ?_
 rintro e w1 ⟨B1, ⟨er, e1, e2, rfl⟩ | ⟨fs, r, e1, e2, rfl, e4, e5, e6⟩⟩
 ·exact .inr ⟨_, rfl, F2.2.1, .inr ⟨er, rfl, B1, .inl ⟨e2, .inl e1⟩⟩⟩
 refine .inl ⟨_, rfl, ?_⟩
 rw [h3.1]
 have F3 := F2.put (v := .tuple #[]) (is := [5]) (i := 5) rfl (by simp)
 refine wpList_nil ?_
 show Code.wp _ _ _ _ _
 have kp1 := B1.blk kp (fun q => by rcases q with q | q; exact hd.1 q; exact hd.2 q)
 refine wp_region_list ?_
 show wpList _ _ _ [b1, b2] _ _
 refine ol_cell h4.2.2 h4.2.1 (F3.get (by simp : (1, ptr pv) ∈ _)) (c1 w1 kp1) hu2 hr2 ?_
 rw [h4.1]
 have F4 := F3.set (i := 6) (v := ptr b) (by omega) rfl
 refine ol_callv h5.2.2 (f := 121) (by kernel_rfl) h5.2.1 rfl (vs := #[ptr b]) (by rw [List.map_toArray]; simp only [List.map_cons, List.map_nil]; rw [F4.get (by simp : (6, ptr b) ∈ _)]) (end_all b r w1 e4) ?_
 rintro e w2 ⟨⟨q1, rfl⟩ | ⟨q1, rfl⟩, rfl⟩
 ·subst q1
  refine .inl ⟨_, rfl, ?_⟩
  rw [h5.1]
  have F5 := F4.put (v := .tuple #[]) (is := [7]) (i := 7) rfl (by simp)
  exact wpList_nil (bodyPost_end (results_none hres _ _ _) F5.2.1 (.inl ⟨rfl, B1, .inr ⟨rfl, fs, e1, e2, e5, e6⟩⟩))
 ·refine .inr ⟨_, rfl, F4.2.1, .inr ⟨4, rfl, B1, .inl ⟨by omega, .inr ⟨rfl, ?_⟩⟩⟩⟩
  cases r with
  | nil => exact absurd rfl q1
  | cons c r => exact ⟨_, c, r, e1⟩
theorem flagW (base b : Nat) (a : Addr) (x : Bool) (out : List UInt8) (w : World) (hL : out.length ≤ 1099511627776) (hP : PassAt w base b out) (ha : w.cell? a = some (.bool x)) :
    Calls Tryz.prog 125 #[.pointer (some ⟨b, 0, none⟩), .pointer (some a)] w fun e w' => Wr base b out (flagL x) e w' ∧ Kp base b w w' :=
  (flag_any base b a x out w hL hP ha).mono fun e w' ⟨h1, h2, h3⟩ => ⟨.inl ⟨rfl, h1, by simpa [flagL, encL, Atom.enc] using h2⟩, h3⟩
theorem digestW (base b : Nat) (a : Addr) (d : Int) (out : List UInt8) (w : World) (hd : 0 ≤ d ∧ d ≤ 18446744073709551615) (hL : out.length ≤ 1099511627776) (hP : PassAt w base b out) (ha : w.cell? a = some (.int .u64 d)) :
    Calls Tryz.prog 126 #[.pointer (some ⟨b, 0, none⟩), .pointer (some a)] w fun e w' => Wr base b out (digL d) e w' ∧ Kp base b w w' :=
  (digest_any base b a d out w hd hL hP ha).mono fun e w' ⟨h1, h2, h3⟩ => ⟨.inl ⟨rfl, h1, by simpa [digL, encL, Atom.enc] using h2⟩, h3⟩
theorem numberW (base b : Nat) (a : Addr) (n : Int) (out : List UInt8) (w : World) (hL : out.length ≤ 1099511627776) (hP : PassAt w base b out) (ha : w.cell? a = some (.int .i64 n)) :
    Calls Tryz.prog 41 #[.pointer (some ⟨b, 0, none⟩), .pointer (some a)] w fun e w' => Wr base b out (intA n) e w' ∧ Kp base b w w' :=
  (number_any base b a n out w hL hP ha).mono fun e w' ⟨h1, h2⟩ => ⟨h1.wr (pNum_at _ _ _), h2⟩
theorem boundedW (base b : Nat) (a : Addr) (n most : Int) (out : List UInt8) (w : World) (hm : most ≤ 1099511627775) (hL : out.length ≤ 1099511627776) (hP : PassAt w base b out) (ha : w.cell? a = some (.int .i64 n)) :
    Calls Tryz.prog 119 #[.pointer (some ⟨b, 0, none⟩), .pointer (some a), .int .i64 most] w fun e w' => Wr base b out [Atom.num most n] e w' ∧ Kp base b w w' :=
  (bounded_any base b a n most out w hm hL hP ha).mono fun e w' ⟨h1, h2⟩ => ⟨h1.wr (pNum_at _ _ _), h2⟩
theorem numbersW (base b lb cap : Nat) (ads : List Addr) (ns : List Int) (out : List UInt8) (w : World) (hn : ns.length ≤ 16) (hL : out.length ≤ 1099511627000) (hP : PassAt w base b out) (hA : Ptrs w b lb ads ns) :
    Calls Tryz.prog 124 #[.pointer (some ⟨b, 0, none⟩), .slice (some ⟨lb, 0, none⟩) ns.length cap] w fun e w' => Wr base b out (nums ns) e w' ∧ Kp base b w w' :=
  (numbers_any base b lb cap ads ns out w hn hL hP hA).mono fun e w' ⟨h1, h2⟩ => ⟨h1.wr (pNums_at _ _), h2⟩
set_option maxHeartbeats 1600000 in
theorem textW (base b : Nat) (a : Addr) (s : List UInt8) (most : Int) (out : List UInt8) (w : World) (hm : most ≤ 1099511627775) (hs9 : s.length ≤ 1099511627775) (hL : out.length + s.length ≤ 1099511627000) (hP : PassAt w base b out) (hs : Safe w b a.block) (ha : w.cell? a = some (.string ⟨s.toArray⟩)) :
    Calls Tryz.prog 153 #[.pointer (some ⟨b, 0, none⟩), .pointer (some a), .int .i64 most] w fun e w' => Wr base b out (textL most s) e w' ∧ Kp base b w w' := by
  obtain ⟨i0, hinf, hz0, hz1, hz2⟩ := info_parts infoByte
  obtain ⟨c0, _, hlt, hb⟩ := hP.cells
  have hB0 : base ≤ w.heap.size := Nat.le_trans hb (Nat.le_of_lt hlt)
  have hal := hs.2.1
  have bA : Below w.heap.size w (w.alloc (.cells #[.int .i64 (s.length : Int)] 3)) := (Below.refl _ _).alloc (Nat.le_refl _) _
  have kA : Kp base b w (w.alloc (.cells #[.int .i64 (s.length : Int)] 3)) := Kp.of_below bA hB0
  have kN := Blk.new w #[.int .i64 (s.length : Int)] 3
  have n0 := kN.cell 0
  simp only [List.getElem?_toArray, List.getElem?_cons_zero] at n0
  have hsz : (⟨s.toArray⟩ : ByteArray).size = s.length := by simp [ByteArray.size]
  have hL1 : out.length ≤ 1099511627776 := by omega
  go_enter Tryz.func153, Tryz.ntmps153
  go_wp2_with fail
  refine (boundedW base b ⟨w.heap.size, 0, none⟩ (s.length : Int) most out _ hm hL1 (hP.below bA) n0).mono ?_
  rintro e w1 ⟨⟨ho1, rfl, P1⟩ | ⟨ho1, rfl⟩, k1⟩
  rotate_left
  · have H1 := show Hid (_ = _) from ho1
    clear ho1
    go_wp2
    exact ⟨rfl, .inr ⟨by have h := H1.out; simp only [okL, Bool.and_true] at h; simp [textL, okL, h], rfl⟩, kA.trans k1⟩
  have H1 := show Hid (_ = _) from ho1
  clear ho1
  have K1 := kA.trans k1
  have a1 : w1.cell? a = some (.string ⟨s.toArray⟩) := by rw [Safe.cell hs K1]; exact ha
  obtain ⟨r0, _, _, _⟩ := P1.cells
  have l1 : (out ++ encL [Atom.num most (s.length : Int)]).length ≤ out.length + 6 := by
    have := encL_len [Atom.num most (s.length : Int)]
    simp only [wtL, Atom.wt] at this
    rw [List.length_append]; omega
  obtain ⟨o1, Ho1⟩ : ∃ o, Hid (o = out ++ encL [Atom.num most (s.length : Int)]) := ⟨_, rfl⟩
  rw [← Ho1.out] at P1 l1
  obtain ⟨v, kP, hown, _⟩ := P1
  obtain ⟨av, cv, rfl⟩ := owns_form hown
  have c1 := kP.cell 1
  have f1 := kP.frozen 1
  have lt1 := kP.lt
  have hB1 : base ≤ w1.heap.size := Nat.le_trans hb (Nat.le_of_lt lt1)
  simp only [List.getElem?_toArray, List.getElem?_cons_succ, List.getElem?_cons_zero] at c1
  have hal1 : a.block < w1.heap.size := Nat.lt_of_lt_of_le hal K1.size
  clear c0 n0 bA kA kN ha
  go_wp2_with fail
  go_region_law
    (refine step_append_str _ (by rfl) _ _ _ _ (by rfl) b 5 i0 Tryz.underlying183 Tryz.underlying9 hinf hz0 hz1 hz2 (.slice av o1.length cv) o1.length (bcells o1) (by rfl) (owns_below hown (Below.refl _ _).drew) ⟨s.toArray⟩ (by rfl) (by rw [hsz]; unfold maxLen; omega) (by rw [hsz]; omega) (Nat.le_of_lt lt1) ?_
     intro a5 c5 w5 hown5 hgrow5
     have hown5' : w5.ownsRow b 5 1 (.slice a5 (o1.length + (⟨s.toArray⟩ : ByteArray).size) c5) (o1.length + s.length) (bcells o1 ++ bcells s) := by
       rw [← bcells_str]; exact hown5
     obtain ⟨kP5, hP6, hK6⟩ := pass_stored (more := s) (kP.below (Below.refl _ _).drew lt1) (owns_below hown (Below.refl _ _).drew) hb hgrow5 hown5'
     have c51 := kP5.cell 1
     have f51 := kP5.frozen 1
     have lt5 := kP5.lt
     simp only [List.getElem?_toArray, List.getElem?_cons_succ, List.getElem?_cons_zero] at c51)
  all_goals
    rw [hsz] at hP6 hK6
    go_end0
    have eo : okL (textL most s) = true := by
      have h := H1.out
      simp only [okL, Bool.and_true] at h
      show ((Atom.num most (s.length : Int)).ok && ((Atom.raw s).ok && true)) = true
      rw [h]; rfl
    have ee : out ++ encL (textL most s) = o1 ++ s := by rw [Ho1.out]; simp [textL, encL, Atom.enc, List.append_assoc]
    rw [← ee] at hP6
    exact ⟨.inl ⟨eo, rfl, hP6⟩, (K1.trans (Kp.of_below (Below.refl _ _).drew hB1)).trans hK6⟩
section
variable {P : Program} {ops : Array Oper} {Q : Exit → Act → World → Prop} {a : Act} {w w' : World} {rest : List Oper} {o : Oper}
theorem ol_nil (hg : o.guard = none) {x : Operand} (ho : o.op = .nilCheck x) {p : Addr} (hx : a.eval x = .pointer (some p)) (h : wpList P ops Q rest (a.put o.dst (.pointer (some p))) w) : wpList P ops Q (o :: rest) a w :=
 ol_val hg (by unfold execOp; rw [ho]; simp only [hx]; rfl) h
theorem ol_len (hg : o.guard = none) {x : Operand} {t e : TypeId} (ho : o.op = .call { callee := .builtin .len, args := #[x], argTypes := #[t] }) {la : Option Addr} {n c : Nat} (hx : a.eval x = .slice la n c) (hu : P.underlying t = some (.slice e)) (h : wpList P ops Q rest (a.put o.dst (.int .i64 n)) w) : wpList P ops Q (o :: rest) a w :=
 ol_val hg (by
  unfold execOp
  rw [ho]
  simp [resolve, hx, invoke, builtin, Builtin.len_, run_underlying hu, goInt]) h
theorem ol_at (hg : o.guard = none) {x y : Operand} {t e : TypeId} (ho : o.op = .indexAddr t x y) {rb ro n c k sz : Nat} (hx : a.eval x = .slice (some ⟨rb, ro, none⟩) n c) (hy : a.eval y = .int .i64 k) (hk : k < n) (hu : P.underlying t = some (.slice e)) (hs : (P.info? e).map (·.size) = some sz) (h : wpList P ops Q rest (a.put o.dst (.pointer (some ⟨rb, ro + k * sz, none⟩))) w) : wpList P ops Q (o :: rest) a w :=
 ol_val hg (by
  unfold execOp
  rw [ho]
  simp only [hx, hy]
  cases hi : P.info? e with
  | none => rw [hi] at hs; cases hs
  | some i =>
   have hz : i.size = sz := by rw [hi] at hs; simpa using hs
   simp [Instr.indexAt, run_underlying hu, asIntOf, sizeOf, typeInfo, hi, hz, hk, Addr.add_lit]) h
theorem Fr.dropn {N : Nat} {L : List (Nat × Value)} (k : Nat) (h : Fr N L a) : Fr N (L.drop k) a := h.sub fun p hp => List.mem_of_mem_drop hp
end
structure LoopOps (lt : TypeId) (ts : Array TypeId) (e1 e2 t1 g1 g2 h1 h2 h3 h4 h5 h6 h7 h8 k1 k2 : Oper) : Prop where
 e1 : Is e1 (some 25) (.load 3 (.tmp 8))
 e2 : Is e2 (some 26) (.move (.const (.int .i64 0)))
 t1 : Is t1 (some 27) (.binOp .lss 3 (.tmp 26) (.tmp 25) 3)
 g1 : Is g1 (some 28) (.move (.tmp 26))
 g2 : Is g2 (some 9) (.assign (.tmp 28))
 h1 : Is h1 (some 29) (.move (.tmp 3))
 h2 : Is h2 (some 30) (.move (.tmp 0))
 h3 : Is h3 (some 31) (.move (.tmp 1))
 h4 : Is h4 (some 32) (.nilCheck (.tmp 31))
 h5 : Is h5 (some 33) (.load lt (.tmp 32))
 h6 : Is h6 (some 34) (.move (.tmp 9))
 h7 : Is h7 (some 35) (.indexAddr lt (.tmp 33) (.tmp 34))
 h8 : Is h8 (some 36) (.call { callee := .value (.tmp 29), args := #[.tmp 30, .tmp 35], argTypes := ts })
 k1 : Is k1 (some 37) (.binOp .add 3 (.tmp 26) (.const (.int .i64 1)) 3)
 k2 : Is k2 (some 26) (.move (.tmp 37))
abbrev lfr (b xb xo one nb : Nat) : List (Nat × Value) := [(8, ptr nb), (0, ptr b), (1, .pointer (some ⟨xb, xo, none⟩)), (3, .func (.func one) #[] #[])]
theorem ret_plain {fn : Func} {R : Ending → World → Prop} {A : Act} {w : World} (hres : fn.results = #[]) (hd : A.defers = []) (h : R (.returned (.tuple #[])) w) : bodyPost Tryz.prog fn R .normal A w := bodyPost_end (results_none hres _ _ _) hd h
theorem lx_loop {lt ety : TypeId} {ts : Array TypeId} {fn : Func} {id4 id5 id6 id7 id8 b0 b1 : Nat} {e1 e2 t1 g1 g2 h1 h2 h3 h4 h5 h6 h7 h8 k1 k2 : Oper} {one b xb xo nb n sz : Nat} {la : Option Addr} {lc : Nat} {A : Act} {w : World} {R : Ending → World → Prop} (J : Nat → World → Prop)
  (O : LoopOps lt ts e1 e2 t1 g1 g2 h1 h2 h3 h4 h5 h6 h7 h8 k1 k2) (hb01 : b0 ≠ b1) (hE : enters Tryz.prog one = true) (hu : Tryz.prog.underlying lt = some (.slice ety)) (hsz : (Tryz.prog.info? ety).map (·.size) = some sz) (hres : fn.results = #[]) (hn : n ≤ 1000)
  (F : Fr 38 (lfr b xb xo one nb) A) (hnb : w.cell? ⟨nb, 0, none⟩ = some (.int .i64 n)) (hc : ∀ k w, J k w → w.cell? ⟨xb, xo, none⟩ = some (.slice la n lc))
  (hr : ∀ k w, k < n → J k w → ∃ rb ro, la = some ⟨rb, ro, none⟩ ∧ Calls Tryz.prog one #[ptr b, .pointer (some ⟨rb, ro + k * sz, none⟩)] w fun e w' => (e = .returned (.tuple #[]) ∧ J (k + 1) w') ∨ (∃ ch, e = .panicked ch ∧ R e w'))
  (h0 : J 0 w) (hend : ∀ w', J n w' → R (.returned (.tuple #[])) w') :
  (Code.seq (.region id4 #[e1, e2] false) (.block b0 (.loop (.seq (.region id5 #[t1] false) (.seq (.cond (.tmp 27) .skip (.exit b0)) (.seq (.block b1 (.seq (.region id6 #[g1, g2] false) (.region id7 #[h1, h2, h3, h4, h5, h6, h7, h8] false))) (.region id8 #[k1, k2] false))))))).wp Tryz.prog (bodyPost Tryz.prog fn R) A w := by
 obtain ⟨d3, hu3, hr3⟩ := cellT_out (show cellT Tryz.prog 3 = true by kernel_rfl)
 refine wp_seq (wp_region_list ?_)
 show wpList _ _ _ [e1, e2] _ _
 refine ol_cell O.e1.2.2 O.e1.2.1 (F.get (by simp : (8, ptr nb) ∈ _)) hnb hu3 hr3 ?_
 rw [O.e1.1]
 have F1 := F.set (i := 25) (v := .int .i64 n) (by omega) rfl
 generalize A.put (some 25) (.int .i64 n) = A1 at *
 refine ol_move O.e2.2.2 (.inl O.e2.2.1) ?_
 rw [O.e2.1]
 have F2 := F1.set (i := 26) (v := .int .i64 0) (by omega) rfl
 show wpList _ _ _ _ (A1.put (some 26) (.int .i64 0)) _
 generalize A1.put (some 26) (.int .i64 0) = A2 at *
 refine wpList_nil ?_
 show Code.wp _ _ _ _ _
 refine wp_block (wp_loop (fun A' w' => ∃ k : Nat, k ≤ n ∧ Fr 38 ((26, .int .i64 k) :: (25, .int .i64 n) :: lfr b xb xo one nb) A' ∧ J k w') (fun A' _ => n - (intOf (A'.eval (.tmp 26))).toNat) ⟨0, Nat.zero_le _, F2, h0⟩ ?_)
 rintro A3 w3 ⟨k, hk, F3, Jk⟩
 refine wp_seq (wp_region_list ?_)
 show wpList _ _ _ [t1] _ _
 have q26 : A3.eval (.tmp 26) = .int .i64 (k : Int) := F3.get (by simp)
 refine ol_val O.t1.2.2 (run_lss O.t1.2.1 q26 (F3.get (by simp : (25, Value.int .i64 (n : Int)) ∈ _))) ?_
 rw [O.t1.1]
 have F4 := F3.set (i := 27) (v := .bool (decide ((k : Int) < (n : Int)))) (by omega) rfl
 generalize A3.put (some 27) (.bool (decide ((k : Int) < (n : Int)))) = A4 at *
 refine wpList_nil ?_
 show Code.wp _ _ _ _ _
 refine wp_seq ?_
 have q27 := F4.get (by simp : (27, Value.bool (decide ((k : Int) < (n : Int)))) ∈ _)
 by_cases hlt : k < n
 ·rw [decide_eq_true (by omega : (k : Int) < (n : Int))] at q27
  refine wp_cond_true q27 (wp_skip ?_)
  show Code.wp _ _ _ _ _
  refine wp_seq (wp_block (wp_seq (wp_region_list ?_)))
  show wpList _ _ _ [g1, g2] _ _
  obtain ⟨rb, ro, rfl, hC⟩ := hr k w3 hlt Jk
  have F5 : Fr 38 ((26, .int .i64 k) :: (25, .int .i64 n) :: lfr b xb xo one nb) A4 := F4.tl
  refine ol_move O.g1.2.2 (.inl O.g1.2.1) ?_
  rw [O.g1.1, F5.get (by simp : (26, Value.int .i64 (k : Int)) ∈ _)]
  have F6 := F5.set (i := 28) (v := .int .i64 (k : Int)) (by omega) rfl
  generalize A4.put (some 28) (.int .i64 (k : Int)) = A5 at *
  refine ol_move O.g2.2.2 (.inr O.g2.2.1) ?_
  rw [O.g2.1, F6.get (by simp : (28, Value.int .i64 (k : Int)) ∈ _)]
  have F7 := F6.set (i := 9) (v := .int .i64 (k : Int)) (by omega) rfl
  generalize A5.put (some 9) (.int .i64 (k : Int)) = A6 at *
  refine wpList_nil ?_
  show Code.wp _ _ _ _ _
  refine wp_region_list ?_
  show wpList _ _ _ [h1, h2, h3, h4, h5, h6, h7, h8] _ _
  refine ol_move O.h1.2.2 (.inl O.h1.2.1) ?_
  rw [O.h1.1, F7.get (by simp : (3, Value.func (.func one) #[] #[]) ∈ _)]
  have G1 := F7.set (i := 29) (v := .func (.func one) #[] #[]) (by omega) rfl
  generalize A6.put (some 29) (.func (.func one) #[] #[]) = C1 at *
  refine ol_move O.h2.2.2 (.inl O.h2.2.1) ?_
  rw [O.h2.1, G1.get (by simp : (0, ptr b) ∈ _)]
  have G2 := G1.set (i := 30) (v := ptr b) (by omega) rfl
  generalize C1.put (some 30) (ptr b) = C2 at *
  refine ol_move O.h3.2.2 (.inl O.h3.2.1) ?_
  rw [O.h3.1, G2.get (by simp : (1, Value.pointer (some ⟨xb, xo, none⟩)) ∈ _)]
  have G3 := G2.set (i := 31) (v := .pointer (some ⟨xb, xo, none⟩)) (by omega) rfl
  generalize C2.put (some 31) (.pointer (some ⟨xb, xo, none⟩)) = C3 at *
  refine ol_nil O.h4.2.2 O.h4.2.1 (G3.get (by simp : (31, Value.pointer (some ⟨xb, xo, none⟩)) ∈ _)) ?_
  rw [O.h4.1]
  have G4 := G3.set (i := 32) (v := .pointer (some ⟨xb, xo, none⟩)) (by omega) rfl
  generalize C3.put (some 32) (.pointer (some ⟨xb, xo, none⟩)) = C4 at *
  refine ol_cell O.h5.2.2 O.h5.2.1 (G4.get (by simp : (32, Value.pointer (some ⟨xb, xo, none⟩)) ∈ _)) (hc k w3 Jk) hu rfl ?_
  rw [O.h5.1]
  have G5 := G4.set (i := 33) (v := .slice (some ⟨rb, ro, none⟩) n lc) (by omega) rfl
  generalize C4.put (some 33) (.slice (some ⟨rb, ro, none⟩) n lc) = C5 at *
  refine ol_move O.h6.2.2 (.inl O.h6.2.1) ?_
  rw [O.h6.1, G5.get (by simp : (9, Value.int .i64 (k : Int)) ∈ _)]
  have G6 := G5.set (i := 34) (v := .int .i64 (k : Int)) (by omega) rfl
  generalize C5.put (some 34) (.int .i64 (k : Int)) = C6 at *
  refine ol_at O.h7.2.2 O.h7.2.1 (G6.get (by simp : (33, Value.slice (some ⟨rb, ro, none⟩) n lc) ∈ _)) (G6.get (by simp : (34, Value.int .i64 (k : Int)) ∈ _)) hlt hu hsz ?_
  rw [O.h7.1]
  have G7 := G6.set (i := 35) (v := .pointer (some ⟨rb, ro + k * sz, none⟩)) (by omega) rfl
  generalize C6.put (some 35) (.pointer (some ⟨rb, ro + k * sz, none⟩)) = C7 at *
  refine ol_callv O.h8.2.2 hE O.h8.2.1 (G7.get (by simp : (29, Value.func (.func one) #[] #[]) ∈ _)) (vs := #[ptr b, .pointer (some ⟨rb, ro + k * sz, none⟩)]) (by rw [List.map_toArray]; simp only [List.map_cons, List.map_nil]; rw [G7.get (by simp : (30, ptr b) ∈ _), G7.get (by simp : (35, Value.pointer (some ⟨rb, ro + k * sz, none⟩)) ∈ _)]) hC ?_
  rintro e w4 (⟨rfl, Jn⟩ | ⟨ch, rfl, hR⟩)
  ·refine .inl ⟨_, rfl, ?_⟩
   rw [O.h8.1]
   have G8 := G7.set (i := 36) (v := .tuple #[]) (by omega) rfl
   generalize C7.put (some 36) (.tuple #[]) = C8 at *
   refine wpList_nil ?_
   show Code.wp _ _ _ _ _
   refine wp_region_list ?_
   show wpList _ _ _ [k1, k2] _ _
   refine ol_val O.k1.2.2 (run_plus1 O.k1.2.1 (G8.get (by simp : (26, Value.int .i64 (k : Int)) ∈ _)) (by omega)) ?_
   rw [O.k1.1]
   have G9 := G8.set (i := 37) (v := .int .i64 ((k : Int) + 1)) (by omega) rfl
   generalize C8.put (some 37) (.int .i64 ((k : Int) + 1)) = C9 at *
   refine ol_move O.k2.2.2 (.inl O.k2.2.1) ?_
   rw [O.k2.1, G9.get (by simp : (37, Value.int .i64 ((k : Int) + 1)) ∈ _)]
   have G10 : Fr 38 ((25, .int .i64 n) :: lfr b xb xo one nb) C9 := G9.dropn 12
   have G11 := G10.set (i := 26) (v := .int .i64 ((k : Int) + 1)) (by omega) rfl
   generalize C9.put (some 26) (.int .i64 ((k : Int) + 1)) = C10 at *
   refine wpList_nil ?_
   show _ ∧ _
   refine ⟨⟨k + 1, hlt, by exact G11, Jn⟩, ?_⟩
   rw [G11.get (by simp : (26, Value.int .i64 ((k : Int) + 1)) ∈ _), q26]
   simp only [intOf]
   omega
  ·refine .inr ⟨ch, rfl, ?_⟩
   show bodyPost Tryz.prog fn R (.panic ch) C7 w4
   exact ⟨G7.2.1, hR⟩
 ·rw [decide_eq_false (by omega : ¬ (k : Int) < (n : Int))] at q27
  refine wp_cond_false q27 (wp_exit ?_)
  show (if b0 = b0 then bodyPost Tryz.prog fn R .normal A4 w3 else _)
  rw [if_pos rfl]
  have : k = n := by omega
  subst this
  exact ret_plain hres F4.2.1 (hend w3 Jk)
end Go.Proofs.YtackcbpabjhmpaaGreat
