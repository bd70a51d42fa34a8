import Derived.Test.YtackcbpabjhmpaaGreatM41
namespace Go.Proofs.YtackcbpabjhmpaaGreat
open Go.RowKit
set_option linter.unusedVariables false
set_option linter.unusedSimpArgs false
def encF (sc : List Sc) (fs : List Fld) : List UInt8 := encL (atomsAll sc (pvAll fs))
theorem encF_app {a c : List Sc} {f g : List Fld} (h : fitsAll a f) : encF (a ++ c) (f ++ g) = encF a f ++ encF c g := by
 unfold encF
 rw [sub_pv (fits_len h), encL_append]
def Wtg (f : FuncId) (vs : List Value) (sc : List Sc) : Prop :=
 enters Tryz.prog f = true ∧ ∀ (base b xb off : Nat) (fs : List Fld) (out : List UInt8) (w : World), fitsAll sc fs → out.length + (encF sc fs).length ≤ 1099511000000 → PassAt w base b out → Safe w b xb → CellsAt base w xb off fs →
  Calls Tryz.prog f (ptr b :: .pointer (some ⟨xb, off, none⟩) :: vs).toArray w fun e w' => e = .returned (.tuple #[]) ∧ PassAt w' base b (out ++ encF sc fs) ∧ Kp base b w w'
def WS (base b xb off : Nat) (tgt : List UInt8) (w0 : World) (n : Nat) (segs : List (List Sc)) (w : World) : Prop :=
 ∃ fs out, fitsAll segs.flatten fs ∧ tgt = out ++ encF segs.flatten fs ∧ tgt.length ≤ 1099511000000 ∧ PassAt w base b out ∧ Safe w b xb ∧ CellsAt base w xb (off + n) fs ∧ Kp base b w0 w
def WR (base b : Nat) (tgt : List UInt8) (w0 : World) (e : Ending) (w' : World) : Prop := e = .returned (.tuple #[]) ∧ PassAt w' base b tgt ∧ Kp base b w0 w'
theorem WS.next {base b xb off n : Nat} {tgt : List UInt8} {w0 w : World} {x : List Sc} {segs : List (List Sc)} (h : WS base b xb off tgt w0 n (x :: segs) w) :
  ∃ p out, fitsAll x p ∧ out.length + (encF x p).length ≤ 1099511000000 ∧ PassAt w base b out ∧ Safe w b xb ∧ CellsAt base w xb (off + n) p ∧ ∀ w1, PassAt w1 base b (out ++ encF x p) → Kp base b w w1 → WS base b xb off tgt w0 (n + x.length) segs w1 := by
 obtain ⟨fs, out, h1, h2, h3, h4, h5, h6, h7⟩ := h
 rw [List.flatten_cons] at h1 h2
 obtain ⟨p, q, rfl, f1, f2⟩ := fitsAll_split h1
 rw [encF_app f1] at h2
 have c := h6.app
 refine ⟨p, out, f1, ?_, h4, h5, c.1, fun w1 q1 q2 => ⟨q, out ++ encF x p, f2, by rw [h2, List.append_assoc], h3, q1, h5.kp q2, ?_, h7.trans q2⟩⟩
 ·rw [h2] at h3
  simp only [List.length_append] at h3
  omega
 ·have := c.2.kp h5 q2
  rw [fits_len f1, Nat.add_assoc] at this
  exact this
theorem Wtg.ct {base b xb off : Nat} {tgt : List UInt8} {w0 : World} {f : FuncId} {vs : List Value} {sc : List Sc} (h : Wtg f vs sc) : Ct (WS base b xb off tgt w0) (WR base b tgt w0) b xb off f vs sc sc.length :=
 ⟨h.1, fun n segs w H => by
  obtain ⟨p, out, f1, hl, hP, hs, hc, K⟩ := H.next
  exact (h.2 base b xb (off + n) p out w f1 hl hP hs hc).mono fun e w1 ⟨e1, e2, e3⟩ => .inl ⟨e1, K w1 e2 e3⟩⟩
theorem wr_ok {base b : Nat} {out : List UInt8} {l : List Atom} {e : Ending} {w' : World} (h : Wr base b out l e w') (ho : okL l = true) : e = .returned (.tuple #[]) ∧ PassAt w' base b (out ++ encL l) := by
 rcases h with ⟨_, h2, h3⟩ | ⟨h1, _⟩
 ·exact ⟨h2, h3⟩
 ·rw [ho] at h1; cases h1
theorem nums_enc : ∀ (l : List Int), atomsAll (List.replicate l.length numC) (pvAll (l.map Fld.i)) = nums l
 | [] => by simp [atomsAll, nums]
 | n :: l => by
  have := nums_enc l
  simp only [List.length_cons, List.replicate_succ, List.map_cons, pvAll, atomsAll, this, Fld.pv, numC, Sc.atoms, nums]
  rfl
theorem digs_enc : ∀ (l : List Int), atomsAll (List.replicate l.length .dig) (pvAll (l.map Fld.d)) = digs l
 | [] => by simp [atomsAll, digs]
 | n :: l => by
  have := digs_enc l
  simp only [List.length_cons, List.replicate_succ, List.map_cons, pvAll, atomsAll, this, Fld.pv, Sc.atoms, digs]
  rfl
theorem digs_of : ∀ (n : Nat) (e : List Fld), fitsAll (List.replicate n .dig) e → ∃ l : List Int, l.length = n ∧ e = l.map Fld.d ∧ ∀ x ∈ l, 0 ≤ x ∧ x ≤ 18446744073709551615
 | 0, e, h => ⟨[], rfl, fits_nil h, fun x hx => by cases hx⟩
 | n + 1, e, h => by
  obtain ⟨f, gs, rfl, h1, h2⟩ := fits_cons (cs := List.replicate n .dig) h
  obtain ⟨m, rfl⟩ := fits_dig h1
  obtain ⟨l, hl, rfl, hb⟩ := digs_of n gs h2
  rw [Sc.fits] at h1
  exact ⟨m :: l, by simp [hl], rfl, fun x hx => by
   rcases List.mem_cons.1 hx with rfl | hx
   ·exact h1
   ·exact hb x hx⟩
theorem numbers_wm {base b xb off k : Nat} {tgt : List UInt8} {w0 : World} (hk : k ≤ 16) : Cm (WS base b xb off tgt w0) (WR base b tgt w0) b xb off 124 187 (List.replicate k numC) k :=
 ⟨by kernel_rfl, fun n segs w w1 H b1 kb => by
  obtain ⟨p, out, f1, hl, hP, hs, hc, K⟩ := H.next
  obtain ⟨l, rfl, rfl⟩ := nums_of k p f1
  obtain ⟨_, _, hlt, hbb⟩ := hP.cells
  have hK : Kp base b w w1 := Kp.of_below b1 (by omega)
  have sl : Safe w1 b w.heap.size := kb.safe (by decide) (by omega)
  have hc1 := hc.kp hs hK
  have key : ((List.range l.length).map fun j => (⟨xb, off + n + j, none⟩ : Addr)).length = l.length := by simp
  have := numbersW base b w.heap.size l.length ((List.range l.length).map fun j => ⟨xb, off + n + j, none⟩) l out w1 hk (by omega) (hP.below b1) ⟨key, sl, fun i a m ha hm => by
   have hi : i < l.length := (List.getElem?_eq_some_iff.1 hm).1
   simp [hi] at ha
   subst ha
   exact ⟨ptrs_cell kb i hi, hc1.get i (f := .i m) (by simp [hm]), hs.kp hK⟩⟩
  refine this.mono fun e w2 ⟨q1, q2⟩ => ?_
  have q := wr_ok q1 (by rw [← nums_enc]; exact fits_ok _ _ f1)
  have K' := K w2 (by unfold encF; rw [nums_enc]; exact q.2) (hK.trans q2)
  rw [List.length_replicate] at K'
  exact .inl ⟨q.1, K'⟩⟩
theorem digests_wm {base b xb off k : Nat} {tgt : List UInt8} {w0 : World} (hk : k ≤ 16) : Cm (WS base b xb off tgt w0) (WR base b tgt w0) b xb off 148 195 (List.replicate k .dig) k :=
 ⟨by kernel_rfl, fun n segs w w1 H b1 kb => by
  obtain ⟨p, out, f1, hl, hP, hs, hc, K⟩ := H.next
  obtain ⟨l, rfl, rfl, hbd⟩ := digs_of k p f1
  obtain ⟨_, _, hlt, hbb⟩ := hP.cells
  have hK : Kp base b w w1 := Kp.of_below b1 (by omega)
  have sl : Safe w1 b w.heap.size := kb.safe (by decide) (by omega)
  have hc1 := hc.kp hs hK
  have key : ((List.range l.length).map fun j => (⟨xb, off + n + j, none⟩ : Addr)).length = l.length := by simp
  have := digestsW base b w.heap.size l.length ((List.range l.length).map fun j => ⟨xb, off + n + j, none⟩) l out w1 hk (by omega) (hP.below b1) ⟨key, sl, fun i a m ha hm => by
   have hi : i < l.length := (List.getElem?_eq_some_iff.1 hm).1
   simp [hi] at ha
   subst ha
   exact ⟨ptrs_cell kb i hi, hc1.get i (f := .d m) (by simp [hm]), hs.kp hK, hbd m (List.mem_of_getElem? hm)⟩⟩
  refine this.mono fun e w2 ⟨q1, q2⟩ => ?_
  have q := wr_ok q1 (by rw [← digs_enc]; exact fits_ok _ _ f1)
  have K' := K w2 (by unfold encF; rw [digs_enc]; exact q.2) (hK.trans q2)
  rw [List.length_replicate] at K'
  exact .inl ⟨q.1, K'⟩⟩
def Part.wt : Part → Prop
 | .one f vs sc => Wtg f vs sc
 | .many f ety k c => k ≤ 16 ∧ ((f = 124 ∧ ety = 187 ∧ c = numC) ∨ (f = 148 ∧ ety = 195 ∧ c = .dig))
theorem Walks.writes {f : FuncId} {ps : List Part} {sc : List Sc} (h : Walks f ps) (hp : ∀ p ∈ ps, p.wt) (hsc : (ps.map Part.sc).flatten = sc) : Wtg f [] sc := by
 refine ⟨h.1, fun base b xb off fs out w hf hl hP hs hc => ?_⟩
 refine h.2 (WS base b xb off (out ++ encF sc fs) w) (WR base b (out ++ encF sc fs) w) b xb off w (fun p q => ?_) ⟨fs, out, by rw [hsc]; exact hf, by rw [hsc], by rw [List.length_append]; exact hl, hP, hs, hc, Kp.refl _ _ _⟩ fun n w' q => ?_
 ·have := hp p q
  cases p with
  | one f vs sc => exact Wtg.ct this
  | many f ety k c =>
   obtain ⟨hk, ⟨rfl, rfl, rfl⟩ | ⟨rfl, rfl, rfl⟩⟩ := this
   ·exact numbers_wm hk
   ·exact digests_wm hk
 ·obtain ⟨gs, o2, q1, q2, q3, q4, q5, q6, q7⟩ := q
  have e : gs = [] := fits_nil q1
  subst e
  refine ⟨rfl, ?_, q7⟩
  rw [q2]
  simpa [encF, atomsAll, pvAll, encL] using q4
theorem wt_one {f : FuncId} {vs : List Value} {c : Sc} (hE : enters Tryz.prog f = true) (h : ∀ (base b xb off : Nat) (g : Fld) (out : List UInt8) (w : World), c.fits g → out.length + (encL (c.atoms g.pv)).length ≤ 1099511000000 → PassAt w base b out → Safe w b xb → w.cell? ⟨xb, off, none⟩ = some g.val → g.good base w →
   Calls Tryz.prog f (ptr b :: .pointer (some ⟨xb, off, none⟩) :: vs).toArray w fun e w' => Wr base b out (c.atoms g.pv) e w' ∧ Kp base b w w') : Wtg f vs [c] := by
 refine ⟨hE, fun base b xb off fs out w hf hl hP hs hc => ?_⟩
 have hok := fits_ok _ _ hf
 obtain ⟨g, gs, rfl, h1, h2⟩ := fits_cons hf
 have e := fits_nil h2
 subst e
 have ea : atomsAll [c] (pvAll [g]) = c.atoms g.pv := by simp [atomsAll, pvAll]
 unfold encF at hl ⊢
 rw [ea] at hl hok ⊢
 exact (h base b xb off g out w h1 hl hP hs hc.1 hc.2.1).mono fun e w' ⟨q1, q2⟩ => ⟨(wr_ok q1 hok).1, (wr_ok q1 hok).2, q2⟩
theorem number_w : Wtg 41 [] [numC] := wt_one (by kernel_rfl) fun base b xb off g out w hf hl hP hs hc hg => by
 obtain ⟨n, rfl⟩ := fits_num hf
 exact numberW base b ⟨xb, off, none⟩ n out w (by omega) hP hc
theorem bounded_w {m : Int} (hm : m ≤ 1099511627775) : Wtg 119 [.int .i64 m] [.num m] := wt_one (by kernel_rfl) fun base b xb off g out w hf hl hP hs hc hg => by
 obtain ⟨n, rfl⟩ := fits_num hf
 exact boundedW base b ⟨xb, off, none⟩ n m out w hm (by omega) hP hc
theorem flag_w : Wtg 125 [] [.flag] := wt_one (by kernel_rfl) fun base b xb off g out w hf hl hP hs hc hg => by
 obtain ⟨n, rfl⟩ := fits_flag hf
 exact flagW base b ⟨xb, off, none⟩ n out w (by omega) hP hc
theorem digest_w : Wtg 126 [] [.dig] := wt_one (by kernel_rfl) fun base b xb off g out w hf hl hP hs hc hg => by
 obtain ⟨n, rfl⟩ := fits_dig hf
 rw [Sc.fits] at hf
 exact digestW base b ⟨xb, off, none⟩ n out w hf (by omega) hP hc
theorem text_w {m : Int} (hm : m ≤ 1099511627775) : Wtg 153 [.int .i64 m] [.text m] := wt_one (by kernel_rfl) fun base b xb off g out w hf hl hP hs hc hg => by
 obtain ⟨n, rfl⟩ := fits_text hf
 rw [Sc.fits] at hf
 have : n.length ≤ (encL (Sc.atoms (.text m) (Fld.s n).pv)).length := by
  simp [Sc.atoms, Fld.pv, textL, encL, Atom.enc]
 exact textW base b ⟨xb, off, none⟩ n m out w hm (by omega) (by omega) hP hs hc
theorem rowsAt_get {base : Nat} {w : World} {rb sz : Nat} : ∀ {ro : Nat} {es : List (List Fld)}, RowsAt base w rb ro es → (∀ e ∈ es, e.length = sz) → ∀ (i : Nat) {e : List Fld}, es[i]? = some e → CellsAt base w rb (ro + i * sz) e
 | _, [], _, _, i, x, hi => by simp at hi
 | ro, y :: es, h, hz, 0, x, hi => by
  simp at hi
  subst hi
  rw [Nat.zero_mul, Nat.add_zero]
  exact h.1
 | ro, y :: es, h, hz, i + 1, x, hi => by
  have h2 : RowsAt base w rb (ro + y.length) es := h.2
  rw [hz y (by simp)] at h2
  have := rowsAt_get h2 (fun e he => hz e (by simp [he])) i (e := x) (by simpa using hi)
  rw [show ro + (i + 1) * sz = ro + sz + i * sz by rw [Nat.add_mul]; omega]
  exact this
def encR (els : List Sc) (es : List (List Fld)) : List UInt8 := encL (eachL (fun e => atomsAll els e) (pvRows es))
theorem encR_take {els : List Sc} {es : List (List Fld)} {k : Nat} {e : List Fld} (h : es[k]? = some e) : encR els (es.take (k + 1)) = encR els (es.take k) ++ encF els e := by
 unfold encR encF
 rw [List.take_add_one, h, pvRows_app, eachL_append, encL_append]
 simp [pvRows, eachL]
theorem encR_part {els : List Sc} {es : List (List Fld)} {k : Nat} : (encR els (es.take k)).length ≤ (encR els es).length := by
 have : encR els es = encR els (es.take k) ++ encR els (es.drop k) := by
  unfold encR
  rw [← encL_append, ← eachL_append, ← pvRows_app, List.take_append_drop]
 rw [this, List.length_append]
 omega
theorem list_writes {f one : FuncId} {lt ety : TypeId} {els : List Sc} {most : Int} (hL : ListFn f lt ety els.length) (h1 : Wtg one [] els) (hm : 0 ≤ most ∧ most ≤ 1000) :
  Wtg f [.int .i64 most, .func (.func one) #[] #[]] [.list most els] := by
 obtain ⟨hf, hb, hN, hres, hE, hu, hsz, hls, h01, O, O'⟩ := hL
 refine ⟨hE, fun base b xb off fs out w hfit hl hP hs hc => ?_⟩
 have hok := fits_ok _ _ hfit
 obtain ⟨g, gs, rfl, hg, h2⟩ := fits_cons hfit
 have e := fits_nil h2
 subst e
 obtain ⟨la, lc, es, rfl, hes⟩ := fits_list hg
 rw [Sc.fits] at hg
 have hc0 : w.cell? ⟨xb, off, none⟩ = some (.slice la es.length lc) := hc.1
 have hgd := hc.2.1
 have ee : atomsAll [.list most els] (pvAll [.l la lc es]) = [Atom.num most (es.length : Int)] ++ eachL (fun e => atomsAll els e) (pvRows es) := by
  simp [atomsAll, pvAll, Fld.pv, Sc.atoms, pvRows_len]
 have ef : encF [.list most els] [.l la lc es] = encL [Atom.num most (es.length : Int)] ++ encR els es := by
  unfold encF encR
  rw [ee, encL_append]
 rw [ee, okL_append, Bool.and_eq_true] at hok
 rw [ef] at hl ⊢
 rw [List.length_append] at hl
 obtain ⟨_, _, hlt, hbb⟩ := hP.cells
 refine calls_of_wp hf hb ?_
 refine lx_head (n := es.length) (la := la) (lc := lc) false O hu (fr_four hN (by omega)) hc0 (RB := fun w1 e w2 => Wr base b out [Atom.num most (es.length : Int)] e w2 ∧ Kp base b w1 w2) (fun w1 b1 k1 => boundedW base b ⟨w.heap.size, 0, none⟩ (es.length : Int) most out w1 (by omega) (by omega) (hP.below b1) ((k1.cell 0).trans rfl)) ?_
 rintro w1 e w2 b1 kn ⟨q1, q2⟩
 obtain ⟨rfl, P2⟩ := wr_ok q1 hok.1
 obtain ⟨r0, _, _, _⟩ := P2.cells
 have hK : Kp base b w w2 := (Kp.of_below b1 (by omega)).trans q2
 refine .inr ⟨rfl, r0, fun A F => ?_⟩
 rw [if_neg (by simp)]
 refine wp_skip ?_
 show Code.wp _ _ _ _ _
 have kn2 := kn.kp q2 (by omega)
 refine lx_loop (n := es.length) (la := la) (lc := lc) (sz := els.length) (fun k w' => PassAt w' base b (out ++ encL [Atom.num most (es.length : Int)] ++ encR els (es.take k)) ∧ Kp base b w w') O' h01 h1.1 hu hsz hres (by omega) F ((kn2.cell 0).trans rfl) ?_ ?_ ⟨by simpa [encR, pvRows, eachL, encL] using P2, hK⟩ ?_
 ·rintro k w' ⟨_, k2⟩
  rw [Safe.cell (a := ⟨xb, off, none⟩) hs k2]
  exact hc0
 ·rintro k w' hlt' ⟨p1, k2⟩
  have hg2 := Fld.good_below k2.below _ hgd
  obtain ⟨_, _, h0 | ⟨rb, ro, e0, rl, rz, rc⟩⟩ := hg2
  ·subst h0; simp at hlt'
  subst e0
  refine ⟨rb, ro, rfl, ?_⟩
  have hk : es[k]? = some es[k] := List.getElem?_eq_getElem hlt'
  have hfe := hes es[k] (List.getElem_mem hlt')
  have hce := rowsAt_get rc (fun e he => fits_len (hes e he)) k hk
  have ht := encR_take (els := els) hk
  have hpt := encR_part (els := els) (es := es) (k := k + 1)
  rw [ht, List.length_append] at hpt
  obtain ⟨_, _, hlt2, hbb2⟩ := p1.cells
  refine (h1.2 base b rb (ro + k * els.length) es[k] _ w' hfe (by simp only [List.length_append]; omega) p1 ⟨by omega, rz, .inl (by omega)⟩ hce).mono fun e w4 ⟨e1, e2, e3⟩ => .inl ⟨e1, ?_, k2.trans e3⟩
  rw [ht, ← List.append_assoc]
  exact e2
 ·rintro w' ⟨p1, k2⟩
  rw [List.take_length, List.append_assoc] at p1
  exact ⟨rfl, p1, k2⟩
end Go.Proofs.YtackcbpabjhmpaaGreat
