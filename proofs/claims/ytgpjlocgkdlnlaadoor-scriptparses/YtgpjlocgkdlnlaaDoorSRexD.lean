/- The answer's Parser: first, by its token. -/
import Derived.Test.YtgpjlocgkdlnlaaDoorSRexC
namespace Go.Proofs.YtgpjlocgkdlnlaaDoor
open Go.RowKit
set_option linter.unusedVariables false
set_option linter.unusedSimpArgs false

theorem tok_range {text : Key} {at_ : Nat} {kd : Int} {tx : Key} {n lv e : Int} {c : C4} {w : World} {b : Nat} (kb : Blk w b (pC text at_ kd tx n lv e c) 43) : w.rangeAt b 2 [.int .u8 kd, .string (str tx), .int .i64 n] := fun j v hj => by
  match j, hj with
  | 0, hj => exact (kb.cell 2).trans (by simpa [pC] using hj)
  | 1, hj => exact (kb.cell 3).trans (by simpa [pC] using hj)
  | 2, hj => exact (kb.cell 4).trans (by simpa [pC] using hj)
theorem stands_one {s t : Key} {S : ES} (h : stands s S = true) (hne : decide (s = t) = false) : stands t S = false := by
  cases S with
  | error e => rfl
  | ok σ =>
    have hn : σ.now = .fixed s := of_decide_eq_true h
    rw [stands_fixed t s σ hn]
    exact hne
theorem atom_num {σ : St} {m : Int} {S1 : ES} (hn : σ.now = .num m) (h : Rv (fun _ => nextT) (.ok σ) () S1) : Rv atomT (.ok σ) (exP 1 m [] []) S1 := by
  have p := h.bind (G := fun n _ => pur (exP 1 m [] [])) (Rv.pur _ S1)
  obtain ⟨n0, p⟩ := p
  refine Rv.succ ⟨n0, fun n hq => Rel.at (p n hq) fun τ e => ?_⟩
  injection e with e
  subst e
  simp only [atomT, hn]
theorem atom_word {σ : St} (hn : ∀ m, σ.now ≠ .num m) (hs : ∀ s, σ.now ≠ .name s) {x : EV} {S1 : ES} (h : Rv wordT (.ok σ) x S1) : Rv atomT (.ok σ) x S1 := by
  obtain ⟨n0, p⟩ := h
  refine Rv.succ ⟨n0, fun n hq => Rel.at (p n hq) fun τ e => ?_⟩
  injection e with e
  subst e
  cases h : σ.now with
  | num m => exact absurd h (hn m)
  | name s => exact absurd h (hs s)
  | none => simp only [atomT, h]
  | fin => simp only [atomT, h]
  | fixed s => simp only [atomT, h]
theorem rword_none {σ : St} (hn : ∀ s, σ.now ≠ .fixed s) {S1 : ES} (h : Rv (fun _ => (wrongT : PM Unit)) (.ok σ) () S1) (x : EV) : Rv wordT (.ok σ) x S1 := by
  have hs := fun s => stands_other s σ hn
  have q := (rv_wrong h).2 σ rfl
  subst q
  have hp : pickI (operW 7) (.ok σ) = 0 := by
    generalize operW 7 = l
    induction l with
    | nil => rfl
    | cons p l ih => obtain ⟨k, s⟩ := p; rw [pickI, hs, if_neg Bool.false_ne_true]; exact ih
  refine Rv.succ ⟨0, fun n _ => Rel.of_err ?_⟩
  have hd : ∀ s, decide (σ.now = .fixed s) = false := fun s => decide_eq_false (hn s)
  simp [wordT, bnd, isT, hd, pickT, hp, wrongT, pur]
theorem atom_name {σ : St} {s : Key} {x : EV} {S1 S2 : ES} (hn : σ.now = .name s) (h : Rv (fun _ => nextT) (.ok σ) () S1) (g : Rv (fun n => bnd (isT [91]) fun c => if c then bnd (innerT n [91] [93]) fun y => pur (exP 4 0 s [y]) else bnd (isT [40]) fun d => if d then bnd (argsT n) fun l => pur (exP 5 0 s l) else pur (exP 3 0 s [])) S1 x S2) : Rv atomT (.ok σ) x S2 := by
  have e : Rv (fun _ => nameT) (.ok σ) s S1 := by
    have p := h.bind (G := fun _ _ => pur s) (Rv.pur s S1)
    obtain ⟨n0, p⟩ := p
    refine ⟨n0, fun n hq => Rel.at (p n hq) fun τ e => ?_⟩
    injection e with e
    subst e
    show bnd nextT (fun _ => pur s) σ = nameT σ
    unfold nameT
    rw [hn]
  have p : Rv namedT (.ok σ) x S2 := Rv.succ ((e.bind g).to fun n => by rw [namedT])
  obtain ⟨n0, p⟩ := p
  refine Rv.succ ⟨n0, fun n hq => Rel.at (p n hq) fun τ e => ?_⟩
  injection e with e
  subst e
  simp only [atomT, hn]
theorem name_at {s : Key} {y : EV} {S1 S2 S3 S4 : ES} (hat : stands [91] S1 = true) (h1 : Rv (fun _ => openT [91]) S1 () S2) (h2 : Rv (fun n => exprT n ((1 : Nat) : Int)) S2 y S3) (h3 : Rv (fun _ => shutT [93]) S3 () S4) : Rv (fun n => bnd (isT [91]) fun c => if c then bnd (innerT n [91] [93]) fun y => pur (exP 4 0 s [y]) else bnd (isT [40]) fun d => if d then bnd (argsT n) fun l => pur (exP 5 0 s l) else pur (exP 3 0 s [])) S1 (exP 4 0 s [y]) S4 := by
  have i : Rv (fun n => innerT n [91] [93]) S1 y S4 := Rv.succ ((h1.bind (G := fun n _ => bnd (exprT n 1) fun x => bnd (shutT [93]) fun _ => pur x) (h2.bind (G := fun n x => bnd (shutT [93]) fun _ => pur x) (h3.bind (G := fun _ _ => pur y) (Rv.pur y S4)))).to fun n => by rw [innerT])
  have j := i.bind (G := fun n y => pur (exP 4 0 s [y])) (Rv.pur (exP 4 0 s [y]) S4)
  exact (Rv.of (rel_is [91] S1)).bind (j.to fun n => by rw [hat]; rfl)
theorem name_use {s : Key} {l : List EV} {S1 S2 : ES} (hat : stands [91] S1 = false) (hu : stands [40] S1 = true) (h : Rv argsT S1 l S2) : Rv (fun n => bnd (isT [91]) fun c => if c then bnd (innerT n [91] [93]) fun y => pur (exP 4 0 s [y]) else bnd (isT [40]) fun d => if d then bnd (argsT n) fun l => pur (exP 5 0 s l) else pur (exP 3 0 s [])) S1 (exP 5 0 s l) S2 := by
  have j := h.bind (G := fun n l => pur (exP 5 0 s l)) (Rv.pur (exP 5 0 s l) S2)
  have k := (Rv.of (rel_is [40] S1)).bind (G := fun n d => if d then bnd (argsT n) fun l => pur (exP 5 0 s l) else pur (exP 3 0 s [])) (j.to fun n => by rw [hu]; rfl)
  exact (Rv.of (rel_is [91] S1)).bind (k.to fun n => by rw [hat]; rfl)
theorem name_plain {s : Key} {S1 : ES} (hat : stands [91] S1 = false) (hu : stands [40] S1 = false) : Rv (fun n => bnd (isT [91]) fun c => if c then bnd (innerT n [91] [93]) fun y => pur (exP 4 0 s [y]) else bnd (isT [40]) fun d => if d then bnd (argsT n) fun l => pur (exP 5 0 s l) else pur (exP 3 0 s [])) S1 (exP 3 0 s []) S1 := by
  have k := (Rv.of (rel_is [40] S1)).bind (G := fun n d => if d then bnd (argsT n) fun l => pur (exP 5 0 s l) else pur (exP 3 0 s [])) ((Rv.pur (exP 3 0 s []) S1).to fun n => by rw [hu]; rfl)
  exact (Rv.of (rel_is [91] S1)).bind (k.to fun n => by rw [hat]; rfl)
set_option maxRecDepth 8000 in
set_option maxHeartbeats 3200000 in
theorem first_num (text : Key) (c : C4) (b : Nat) (σ : St) (mm : Int) (hn : σ.now = .num mm) (hk : tokK σ.now = 48) : Meth Tryd.prog (PdX text c b) (fun k => k = b) 69 [ptr b] (.ok σ) (ExQ atomT (.ok σ)) := by
  refine ⟨by kernel_rfl, fun wO R _ => ?_⟩
  have M := pd_begin R
  refine sw_fn Tryd.func69 rfl 115 Tryd.ntmps69 rfl fun A F => ?_
  refine sw_seq ?_
  refine sw_reg ?_
  refine sw_alloc F M [.int .i64 0, .int .i64 0, .string ⟨#[]⟩, .slice none 0 0] ⟨rfl, rfl, rfl⟩ (by kernel_rfl) rfl fun x1 A w F M => ?_
  refine sw_end ?_
  show Code.wp _ _ _ _ _
  refine sw_seq ?_
  refine sw_reg ?_
  refine sw_move F ⟨rfl, rfl, rfl⟩ rfl rfl fun A F => ?_
  refine sw_nil F ⟨rfl, rfl, rfl⟩ rfl rfl fun A F => ?_
  refine sw_fld F 2 ⟨rfl, rfl, rfl⟩ rfl (by kernel_rfl) rfl rfl fun A F => ?_
  obtain ⟨at0, kd0, tx0, n0, lv0, er0, kb0, hr0⟩ := M.st.cells
  obtain rfl : kd0 = 48 := hr0.1.trans hk
  refine sw_rng F (tok_range kb0) ⟨rfl, rfl, rfl⟩ rfl (by kernel_rfl) (by kernel_rfl) rfl fun A F => ?_
  refine sw_alloc F M [.int .u8 0, .string ⟨#[]⟩, .int .i64 0] ⟨rfl, rfl, rfl⟩ (by kernel_rfl) rfl fun x2 A w F M => ?_
  refine sw_setAll F M 0 ⟨rfl, rfl, rfl⟩ rfl rfl rfl (by kernel_rfl) rfl rfl fun w M => ?_
  simp only [List.set_cons_zero, List.set_cons_succ] at M
  refine sw_end ?_
  show Code.wp _ _ _ _ _
  refine sw_seq ?_
  refine sw_reg ?_
  refine sw_asg F ⟨rfl, rfl, rfl⟩ rfl rfl fun A F => ?_
  refine sw_end ?_
  show Code.wp _ _ _ _ _
  refine sw_seq ?_
  refine sw_seq ?_
  refine sw_reg ?_
  refine sw_fld F 0 ⟨rfl, rfl, rfl⟩ rfl (by kernel_rfl) rfl rfl fun A F => ?_
  refine sw_cell F M 0 ⟨rfl, rfl, rfl⟩ rfl rfl rfl (by kernel_rfl) rfl fun A F => ?_
  refine sw_eql F ⟨rfl, rfl, rfl⟩ rfl rfl rfl fun A F => ?_
  refine sw_move F ⟨rfl, rfl, rfl⟩ rfl rfl fun A F => ?_
  refine sw_on F 3 rfl rfl rfl rfl rfl ?_
  refine sw_fld F 0 ⟨rfl, rfl, rfl⟩ rfl (by kernel_rfl) rfl rfl fun A F => ?_
  refine sw_on F 3 rfl rfl rfl rfl rfl ?_
  refine sw_cell F M 0 ⟨rfl, rfl, rfl⟩ rfl rfl rfl (by kernel_rfl) rfl fun A F => ?_
  refine sw_on F 3 rfl rfl rfl rfl rfl ?_
  refine sw_eql F ⟨rfl, rfl, rfl⟩ rfl rfl rfl fun A F => ?_
  refine sw_pickF F ⟨rfl, rfl, rfl⟩ rfl rfl rfl fun A F => ?_
  refine sw_end ?_
  show Code.wp _ _ _ _ _
  refine sw_false F rfl ?_
  refine wp_skip ?_
  show Code.wp _ _ _ _ _
  refine sw_seq ?_
  refine wp_block ?_
  refine sw_seq ?_
  refine sw_reg ?_
  refine sw_fld F 0 ⟨rfl, rfl, rfl⟩ rfl (by kernel_rfl) rfl rfl fun A F => ?_
  refine sw_cell F M 0 ⟨rfl, rfl, rfl⟩ rfl rfl rfl (by kernel_rfl) rfl fun A F => ?_
  refine sw_eql F ⟨rfl, rfl, rfl⟩ rfl rfl rfl fun A F => ?_
  refine sw_asg F ⟨rfl, rfl, rfl⟩ rfl rfl fun A F => ?_
  refine sw_end ?_
  show Code.wp _ _ _ _ _
  refine sw_true F rfl ?_
  refine sw_seq ?_
  refine sw_reg ?_
  refine sw_move F ⟨rfl, rfl, rfl⟩ rfl rfl fun A F => ?_
  refine sw_call0 (rnext_m text c b (.ok σ)) F M ⟨rfl, rfl, rfl⟩ rfl rfl ?_
  rintro _ S3 A w ⟨_, h4⟩ F M
  refine sw_end ?_
  show Code.wp _ _ _ _ _
  refine sw_seq ?_
  refine sw_reg ?_
  refine sw_fld F 2 ⟨rfl, rfl, rfl⟩ rfl (by kernel_rfl) rfl rfl fun A F => ?_
  refine sw_cell F M 0 ⟨rfl, rfl, rfl⟩ rfl rfl rfl (by kernel_rfl) rfl fun A F => ?_
  refine sw_build F _ [.int .i64 1, .int .i64 n0, .string ⟨#[]⟩, .slice none 0 0] ⟨rfl, rfl, rfl⟩ rfl (by kernel_rfl) rfl fun A F => ?_
  refine sw_setAll F M 1 ⟨rfl, rfl, rfl⟩ rfl rfl rfl (by kernel_rfl) rfl rfl fun w M => ?_
  simp only [List.set_cons_zero, List.set_cons_succ] at M
  refine sw_end ?_
  show Code.wp _ _ _ _ _
  refine wp_ret ?_
  repeat (first | refine then_ret ?_ | refine block_ret ?_)
  have hb : 0 ≤ mm ∧ mm ≤ 1099511627775 := by
    obtain ⟨_, _, _, _, _, _, hs, _⟩ := R
    have := hs.2
    rw [hn] at this
    exact this
  obtain rfl : n0 = mm := hr0.2.2.1.trans (by rw [hn]; rfl)
  exact sw_retbox F M 1 Tryd.results69 rfl rfl (by kernel_rfl) (by kernel_rfl) ⟨_, exF 1 n0 [] none 0 [], S3, rfl, M.but, M.st, lie_cons (by constructor <;> omega) (lie_cons (by constructor <;> omega) (lie_cons trivial (lie_cons ⟨Nat.le_refl _, Nat.zero_le _, .inl rfl⟩ (lie_nil _ _)))), 1, n0, [], none, 0, [], rfl, rfl, atom_num hn h4⟩
set_option maxRecDepth 8000 in
set_option maxHeartbeats 3200000 in
theorem first_fin (text : Key) (c : C4) (b : Nat) (σ : St) (hk : tokK σ.now = 101) (hw : ∀ s, σ.now ≠ .fixed s) : Meth Tryd.prog (PdX text c b) (fun k => k = b) 69 [ptr b] (.ok σ) (ExQ atomT (.ok σ)) := by
  refine ⟨by kernel_rfl, fun wO R _ => ?_⟩
  have M := pd_begin R
  refine sw_fn Tryd.func69 rfl 115 Tryd.ntmps69 rfl fun A F => ?_
  refine sw_seq ?_
  refine sw_reg ?_
  refine sw_alloc F M [.int .i64 0, .int .i64 0, .string ⟨#[]⟩, .slice none 0 0] ⟨rfl, rfl, rfl⟩ (by kernel_rfl) rfl fun x1 A w F M => ?_
  refine sw_end ?_
  show Code.wp _ _ _ _ _
  refine sw_seq ?_
  refine sw_reg ?_
  refine sw_move F ⟨rfl, rfl, rfl⟩ rfl rfl fun A F => ?_
  refine sw_nil F ⟨rfl, rfl, rfl⟩ rfl rfl fun A F => ?_
  refine sw_fld F 2 ⟨rfl, rfl, rfl⟩ rfl (by kernel_rfl) rfl rfl fun A F => ?_
  obtain ⟨at0, kd0, tx0, n0, lv0, er0, kb0, hr0⟩ := M.st.cells
  obtain rfl : kd0 = 101 := hr0.1.trans hk
  refine sw_rng F (tok_range kb0) ⟨rfl, rfl, rfl⟩ rfl (by kernel_rfl) (by kernel_rfl) rfl fun A F => ?_
  refine sw_alloc F M [.int .u8 0, .string ⟨#[]⟩, .int .i64 0] ⟨rfl, rfl, rfl⟩ (by kernel_rfl) rfl fun x2 A w F M => ?_
  refine sw_setAll F M 0 ⟨rfl, rfl, rfl⟩ rfl rfl rfl (by kernel_rfl) rfl rfl fun w M => ?_
  simp only [List.set_cons_zero, List.set_cons_succ] at M
  refine sw_end ?_
  show Code.wp _ _ _ _ _
  refine sw_seq ?_
  refine sw_reg ?_
  refine sw_asg F ⟨rfl, rfl, rfl⟩ rfl rfl fun A F => ?_
  refine sw_end ?_
  show Code.wp _ _ _ _ _
  refine sw_seq ?_
  refine sw_seq ?_
  refine sw_reg ?_
  refine sw_fld F 0 ⟨rfl, rfl, rfl⟩ rfl (by kernel_rfl) rfl rfl fun A F => ?_
  refine sw_cell F M 0 ⟨rfl, rfl, rfl⟩ rfl rfl rfl (by kernel_rfl) rfl fun A F => ?_
  refine sw_eql F ⟨rfl, rfl, rfl⟩ rfl rfl rfl fun A F => ?_
  refine sw_move F ⟨rfl, rfl, rfl⟩ rfl rfl fun A F => ?_
  refine sw_on F 3 rfl rfl rfl rfl rfl ?_
  refine sw_fld F 0 ⟨rfl, rfl, rfl⟩ rfl (by kernel_rfl) rfl rfl fun A F => ?_
  refine sw_on F 3 rfl rfl rfl rfl rfl ?_
  refine sw_cell F M 0 ⟨rfl, rfl, rfl⟩ rfl rfl rfl (by kernel_rfl) rfl fun A F => ?_
  refine sw_on F 3 rfl rfl rfl rfl rfl ?_
  refine sw_eql F ⟨rfl, rfl, rfl⟩ rfl rfl rfl fun A F => ?_
  refine sw_pickF F ⟨rfl, rfl, rfl⟩ rfl rfl rfl fun A F => ?_
  refine sw_end ?_
  show Code.wp _ _ _ _ _
  refine sw_false F rfl ?_
  refine wp_skip ?_
  show Code.wp _ _ _ _ _
  refine sw_seq ?_
  refine wp_block ?_
  refine sw_seq ?_
  refine sw_reg ?_
  refine sw_fld F 0 ⟨rfl, rfl, rfl⟩ rfl (by kernel_rfl) rfl rfl fun A F => ?_
  refine sw_cell F M 0 ⟨rfl, rfl, rfl⟩ rfl rfl rfl (by kernel_rfl) rfl fun A F => ?_
  refine sw_eql F ⟨rfl, rfl, rfl⟩ rfl rfl rfl fun A F => ?_
  refine sw_asg F ⟨rfl, rfl, rfl⟩ rfl rfl fun A F => ?_
  refine sw_end ?_
  show Code.wp _ _ _ _ _
  refine sw_false F rfl ?_
  refine sw_seq ?_
  refine sw_reg ?_
  refine sw_fld F 0 ⟨rfl, rfl, rfl⟩ rfl (by kernel_rfl) rfl rfl fun A F => ?_
  refine sw_cell F M 0 ⟨rfl, rfl, rfl⟩ rfl rfl rfl (by kernel_rfl) rfl fun A F => ?_
  refine sw_eql F ⟨rfl, rfl, rfl⟩ rfl rfl rfl fun A F => ?_
  refine sw_asg F ⟨rfl, rfl, rfl⟩ rfl rfl fun A F => ?_
  refine sw_end ?_
  show Code.wp _ _ _ _ _
  refine sw_false F rfl ?_
  refine sw_seq ?_
  refine sw_reg ?_
  refine sw_move F ⟨rfl, rfl, rfl⟩ rfl rfl fun A F => ?_
  refine sw_seq2 F ⟨rfl, rfl, rfl⟩ rfl rfl rfl fun A F => ?_
  rw [show (([] : Key) == [40]) = false from rfl] at F
  refine sw_asg F ⟨rfl, rfl, rfl⟩ rfl rfl fun A F => ?_
  refine sw_end ?_
  show Code.wp _ _ _ _ _
  refine sw_false F rfl ?_
  refine sw_seq ?_
  refine sw_reg ?_
  refine sw_move F ⟨rfl, rfl, rfl⟩ rfl rfl fun A F => ?_
  refine sw_seq2 F ⟨rfl, rfl, rfl⟩ rfl rfl rfl fun A F => ?_
  rw [show (([] : Key) == [116, 114, 117, 101]) = false from rfl] at F
  refine sw_asg F ⟨rfl, rfl, rfl⟩ rfl rfl fun A F => ?_
  refine sw_end ?_
  show Code.wp _ _ _ _ _
  refine sw_false F rfl ?_
  refine sw_seq ?_
  refine sw_reg ?_
  refine sw_move F ⟨rfl, rfl, rfl⟩ rfl rfl fun A F => ?_
  refine sw_seq2 F ⟨rfl, rfl, rfl⟩ rfl rfl rfl fun A F => ?_
  rw [show (([] : Key) == [102, 97, 108, 115, 101]) = false from rfl] at F
  refine sw_asg F ⟨rfl, rfl, rfl⟩ rfl rfl fun A F => ?_
  refine sw_end ?_
  show Code.wp _ _ _ _ _
  refine sw_false F rfl ?_
  refine sw_seq ?_
  refine sw_reg ?_
  refine sw_move F ⟨rfl, rfl, rfl⟩ rfl rfl fun A F => ?_
  refine sw_callR (by kernel_rfl) (rpLeaf_any [] _) F ⟨rfl, rfl, rfl⟩ rfl rfl ?_
  rintro e _ ⟨rfl, rfl⟩
  refine ⟨_, rfl, fun A F => ?_⟩
  refine sw_gtr F ⟨rfl, rfl, rfl⟩ rfl rfl rfl fun A F => ?_
  rw [show decide ((0 : Int) < leafI []) = false from by decide] at F
  refine sw_asg F ⟨rfl, rfl, rfl⟩ rfl rfl fun A F => ?_
  refine sw_end ?_
  show Code.wp _ _ _ _ _
  refine sw_false F rfl ?_
  refine sw_seq ?_
  refine sw_reg ?_
  refine sw_move F ⟨rfl, rfl, rfl⟩ rfl rfl fun A F => ?_
  refine sw_callR (by kernel_rfl) (rpOf_any [] _) F ⟨rfl, rfl, rfl⟩ rfl rfl ?_
  rintro e _ ⟨rfl, rfl⟩
  refine ⟨_, rfl, fun A F => ?_⟩
  refine sw_gtr F ⟨rfl, rfl, rfl⟩ rfl rfl rfl fun A F => ?_
  rw [show decide ((0 : Int) < ofI []) = false from by decide] at F
  refine sw_asg F ⟨rfl, rfl, rfl⟩ rfl rfl fun A F => ?_
  refine sw_end ?_
  show Code.wp _ _ _ _ _
  refine sw_false F rfl ?_
  refine wp_skip ?_
  show Code.wp _ _ _ _ _
  refine sw_seq ?_
  refine sw_reg ?_
  refine sw_move F ⟨rfl, rfl, rfl⟩ rfl rfl fun A F => ?_
  refine sw_call0 (rwrong_m text c b (.ok σ)) F M ⟨rfl, rfl, rfl⟩ rfl rfl ?_
  rintro _ S3 A w ⟨_, h4⟩ F M
  refine sw_end ?_
  show Code.wp _ _ _ _ _
  refine sw_seq ?_
  refine sw_reg ?_
  refine sw_build F _ [.int .i64 0, .int .i64 0, .string ⟨#[]⟩, .slice none 0 0] ⟨rfl, rfl, rfl⟩ rfl (by kernel_rfl) rfl fun A F => ?_
  refine sw_setAll F M 1 ⟨rfl, rfl, rfl⟩ rfl rfl rfl (by kernel_rfl) rfl rfl fun w M => ?_
  simp only [List.set_cons_zero, List.set_cons_succ] at M
  refine sw_end ?_
  show Code.wp _ _ _ _ _
  refine wp_ret ?_
  repeat (first | refine then_ret ?_ | refine block_ret ?_)
  exact sw_retbox F M 1 Tryd.results69 rfl rfl (by kernel_rfl) (by kernel_rfl) ⟨_, exF 0 0 [] none 0 [], S3, rfl, M.but, M.st, lie_zero _ _, 0, 0, [], none, 0, [], rfl, rfl, atom_word (fun m q => by rw [q] at hk; cases hk) (fun s q => by rw [q] at hk; cases hk) (rword_none (fun s q => hw s q) h4 _)⟩
set_option maxRecDepth 8000 in
set_option maxHeartbeats 3200000 in
theorem first_none (text : Key) (c : C4) (b : Nat) (σ : St) (hk : tokK σ.now = 0) (hw : ∀ s, σ.now ≠ .fixed s) : Meth Tryd.prog (PdX text c b) (fun k => k = b) 69 [ptr b] (.ok σ) (ExQ atomT (.ok σ)) := by
  refine ⟨by kernel_rfl, fun wO R _ => ?_⟩
  have M := pd_begin R
  refine sw_fn Tryd.func69 rfl 115 Tryd.ntmps69 rfl fun A F => ?_
  refine sw_seq ?_
  refine sw_reg ?_
  refine sw_alloc F M [.int .i64 0, .int .i64 0, .string ⟨#[]⟩, .slice none 0 0] ⟨rfl, rfl, rfl⟩ (by kernel_rfl) rfl fun x1 A w F M => ?_
  refine sw_end ?_
  show Code.wp _ _ _ _ _
  refine sw_seq ?_
  refine sw_reg ?_
  refine sw_move F ⟨rfl, rfl, rfl⟩ rfl rfl fun A F => ?_
  refine sw_nil F ⟨rfl, rfl, rfl⟩ rfl rfl fun A F => ?_
  refine sw_fld F 2 ⟨rfl, rfl, rfl⟩ rfl (by kernel_rfl) rfl rfl fun A F => ?_
  obtain ⟨at0, kd0, tx0, n0, lv0, er0, kb0, hr0⟩ := M.st.cells
  obtain rfl : kd0 = 0 := hr0.1.trans hk
  refine sw_rng F (tok_range kb0) ⟨rfl, rfl, rfl⟩ rfl (by kernel_rfl) (by kernel_rfl) rfl fun A F => ?_
  refine sw_alloc F M [.int .u8 0, .string ⟨#[]⟩, .int .i64 0] ⟨rfl, rfl, rfl⟩ (by kernel_rfl) rfl fun x2 A w F M => ?_
  refine sw_setAll F M 0 ⟨rfl, rfl, rfl⟩ rfl rfl rfl (by kernel_rfl) rfl rfl fun w M => ?_
  simp only [List.set_cons_zero, List.set_cons_succ] at M
  refine sw_end ?_
  show Code.wp _ _ _ _ _
  refine sw_seq ?_
  refine sw_reg ?_
  refine sw_asg F ⟨rfl, rfl, rfl⟩ rfl rfl fun A F => ?_
  refine sw_end ?_
  show Code.wp _ _ _ _ _
  refine sw_seq ?_
  refine sw_seq ?_
  refine sw_reg ?_
  refine sw_fld F 0 ⟨rfl, rfl, rfl⟩ rfl (by kernel_rfl) rfl rfl fun A F => ?_
  refine sw_cell F M 0 ⟨rfl, rfl, rfl⟩ rfl rfl rfl (by kernel_rfl) rfl fun A F => ?_
  refine sw_eql F ⟨rfl, rfl, rfl⟩ rfl rfl rfl fun A F => ?_
  refine sw_move F ⟨rfl, rfl, rfl⟩ rfl rfl fun A F => ?_
  refine sw_on F 3 rfl rfl rfl rfl rfl ?_
  refine sw_fld F 0 ⟨rfl, rfl, rfl⟩ rfl (by kernel_rfl) rfl rfl fun A F => ?_
  refine sw_on F 3 rfl rfl rfl rfl rfl ?_
  refine sw_cell F M 0 ⟨rfl, rfl, rfl⟩ rfl rfl rfl (by kernel_rfl) rfl fun A F => ?_
  refine sw_on F 3 rfl rfl rfl rfl rfl ?_
  refine sw_eql F ⟨rfl, rfl, rfl⟩ rfl rfl rfl fun A F => ?_
  refine sw_pickF F ⟨rfl, rfl, rfl⟩ rfl rfl rfl fun A F => ?_
  refine sw_end ?_
  show Code.wp _ _ _ _ _
  refine sw_false F rfl ?_
  refine wp_skip ?_
  show Code.wp _ _ _ _ _
  refine sw_seq ?_
  refine wp_block ?_
  refine sw_seq ?_
  refine sw_reg ?_
  refine sw_fld F 0 ⟨rfl, rfl, rfl⟩ rfl (by kernel_rfl) rfl rfl fun A F => ?_
  refine sw_cell F M 0 ⟨rfl, rfl, rfl⟩ rfl rfl rfl (by kernel_rfl) rfl fun A F => ?_
  refine sw_eql F ⟨rfl, rfl, rfl⟩ rfl rfl rfl fun A F => ?_
  refine sw_asg F ⟨rfl, rfl, rfl⟩ rfl rfl fun A F => ?_
  refine sw_end ?_
  show Code.wp _ _ _ _ _
  refine sw_false F rfl ?_
  refine sw_seq ?_
  refine sw_reg ?_
  refine sw_fld F 0 ⟨rfl, rfl, rfl⟩ rfl (by kernel_rfl) rfl rfl fun A F => ?_
  refine sw_cell F M 0 ⟨rfl, rfl, rfl⟩ rfl rfl rfl (by kernel_rfl) rfl fun A F => ?_
  refine sw_eql F ⟨rfl, rfl, rfl⟩ rfl rfl rfl fun A F => ?_
  refine sw_asg F ⟨rfl, rfl, rfl⟩ rfl rfl fun A F => ?_
  refine sw_end ?_
  show Code.wp _ _ _ _ _
  refine sw_false F rfl ?_
  refine sw_seq ?_
  refine sw_reg ?_
  refine sw_move F ⟨rfl, rfl, rfl⟩ rfl rfl fun A F => ?_
  refine sw_seq2 F ⟨rfl, rfl, rfl⟩ rfl rfl rfl fun A F => ?_
  rw [show (([] : Key) == [40]) = false from rfl] at F
  refine sw_asg F ⟨rfl, rfl, rfl⟩ rfl rfl fun A F => ?_
  refine sw_end ?_
  show Code.wp _ _ _ _ _
  refine sw_false F rfl ?_
  refine sw_seq ?_
  refine sw_reg ?_
  refine sw_move F ⟨rfl, rfl, rfl⟩ rfl rfl fun A F => ?_
  refine sw_seq2 F ⟨rfl, rfl, rfl⟩ rfl rfl rfl fun A F => ?_
  rw [show (([] : Key) == [116, 114, 117, 101]) = false from rfl] at F
  refine sw_asg F ⟨rfl, rfl, rfl⟩ rfl rfl fun A F => ?_
  refine sw_end ?_
  show Code.wp _ _ _ _ _
  refine sw_false F rfl ?_
  refine sw_seq ?_
  refine sw_reg ?_
  refine sw_move F ⟨rfl, rfl, rfl⟩ rfl rfl fun A F => ?_
  refine sw_seq2 F ⟨rfl, rfl, rfl⟩ rfl rfl rfl fun A F => ?_
  rw [show (([] : Key) == [102, 97, 108, 115, 101]) = false from rfl] at F
  refine sw_asg F ⟨rfl, rfl, rfl⟩ rfl rfl fun A F => ?_
  refine sw_end ?_
  show Code.wp _ _ _ _ _
  refine sw_false F rfl ?_
  refine sw_seq ?_
  refine sw_reg ?_
  refine sw_move F ⟨rfl, rfl, rfl⟩ rfl rfl fun A F => ?_
  refine sw_callR (by kernel_rfl) (rpLeaf_any [] _) F ⟨rfl, rfl, rfl⟩ rfl rfl ?_
  rintro e _ ⟨rfl, rfl⟩
  refine ⟨_, rfl, fun A F => ?_⟩
  refine sw_gtr F ⟨rfl, rfl, rfl⟩ rfl rfl rfl fun A F => ?_
  rw [show decide ((0 : Int) < leafI []) = false from by decide] at F
  refine sw_asg F ⟨rfl, rfl, rfl⟩ rfl rfl fun A F => ?_
  refine sw_end ?_
  show Code.wp _ _ _ _ _
  refine sw_false F rfl ?_
  refine sw_seq ?_
  refine sw_reg ?_
  refine sw_move F ⟨rfl, rfl, rfl⟩ rfl rfl fun A F => ?_
  refine sw_callR (by kernel_rfl) (rpOf_any [] _) F ⟨rfl, rfl, rfl⟩ rfl rfl ?_
  rintro e _ ⟨rfl, rfl⟩
  refine ⟨_, rfl, fun A F => ?_⟩
  refine sw_gtr F ⟨rfl, rfl, rfl⟩ rfl rfl rfl fun A F => ?_
  rw [show decide ((0 : Int) < ofI []) = false from by decide] at F
  refine sw_asg F ⟨rfl, rfl, rfl⟩ rfl rfl fun A F => ?_
  refine sw_end ?_
  show Code.wp _ _ _ _ _
  refine sw_false F rfl ?_
  refine wp_skip ?_
  show Code.wp _ _ _ _ _
  refine sw_seq ?_
  refine sw_reg ?_
  refine sw_move F ⟨rfl, rfl, rfl⟩ rfl rfl fun A F => ?_
  refine sw_call0 (rwrong_m text c b (.ok σ)) F M ⟨rfl, rfl, rfl⟩ rfl rfl ?_
  rintro _ S3 A w ⟨_, h4⟩ F M
  refine sw_end ?_
  show Code.wp _ _ _ _ _
  refine sw_seq ?_
  refine sw_reg ?_
  refine sw_build F _ [.int .i64 0, .int .i64 0, .string ⟨#[]⟩, .slice none 0 0] ⟨rfl, rfl, rfl⟩ rfl (by kernel_rfl) rfl fun A F => ?_
  refine sw_setAll F M 1 ⟨rfl, rfl, rfl⟩ rfl rfl rfl (by kernel_rfl) rfl rfl fun w M => ?_
  simp only [List.set_cons_zero, List.set_cons_succ] at M
  refine sw_end ?_
  show Code.wp _ _ _ _ _
  refine wp_ret ?_
  repeat (first | refine then_ret ?_ | refine block_ret ?_)
  exact sw_retbox F M 1 Tryd.results69 rfl rfl (by kernel_rfl) (by kernel_rfl) ⟨_, exF 0 0 [] none 0 [], S3, rfl, M.but, M.st, lie_zero _ _, 0, 0, [], none, 0, [], rfl, rfl, atom_word (fun m q => by rw [q] at hk; cases hk) (fun s q => by rw [q] at hk; cases hk) (rword_none (fun s q => hw s q) h4 _)⟩
set_option maxRecDepth 8000 in
set_option maxHeartbeats 3200000 in
theorem first_name {m : Nat} (text : Key) (c : C4) (b : Nat) (IH : ∀ (S : ES) (r : Nat), need S < m → 1 ≤ r → r ≤ 7 → Meth Tryd.prog (PdX text c b) (fun k => k = b) 61 [ptr b, .int .i64 r] S (ExQ (fun n => exprT n r) S)) (σ : St) (hm : need (.ok σ) ≤ m) (s : Key) (hn : σ.now = .name s) (hk : tokK σ.now = 110) : Meth Tryd.prog (PdX text c b) (fun k => k = b) 69 [ptr b] (.ok σ) (ExQ atomT (.ok σ)) := by
  have hhere : Here (.ok σ) := ⟨by rw [hn]; simp, by rw [hn]; simp⟩
  refine ⟨by kernel_rfl, fun wO R _ => ?_⟩
  have M := pd_begin R
  refine sw_fn Tryd.func69 rfl 115 Tryd.ntmps69 rfl fun A F => ?_
  refine sw_seq ?_
  refine sw_reg ?_
  refine sw_alloc F M [.int .i64 0, .int .i64 0, .string ⟨#[]⟩, .slice none 0 0] ⟨rfl, rfl, rfl⟩ (by kernel_rfl) rfl fun x1 A w F M => ?_
  refine sw_end ?_
  show Code.wp _ _ _ _ _
  refine sw_seq ?_
  refine sw_reg ?_
  refine sw_move F ⟨rfl, rfl, rfl⟩ rfl rfl fun A F => ?_
  refine sw_nil F ⟨rfl, rfl, rfl⟩ rfl rfl fun A F => ?_
  refine sw_fld F 2 ⟨rfl, rfl, rfl⟩ rfl (by kernel_rfl) rfl rfl fun A F => ?_
  obtain ⟨at0, kd0, tx0, n0, lv0, er0, kb0, hr0⟩ := M.st.cells
  obtain rfl : kd0 = 110 := hr0.1.trans hk
  refine sw_rng F (tok_range kb0) ⟨rfl, rfl, rfl⟩ rfl (by kernel_rfl) (by kernel_rfl) rfl fun A F => ?_
  refine sw_alloc F M [.int .u8 0, .string ⟨#[]⟩, .int .i64 0] ⟨rfl, rfl, rfl⟩ (by kernel_rfl) rfl fun x2 A w F M => ?_
  refine sw_setAll F M 0 ⟨rfl, rfl, rfl⟩ rfl rfl rfl (by kernel_rfl) rfl rfl fun w M => ?_
  simp only [List.set_cons_zero, List.set_cons_succ] at M
  refine sw_end ?_
  show Code.wp _ _ _ _ _
  refine sw_seq ?_
  refine sw_reg ?_
  refine sw_asg F ⟨rfl, rfl, rfl⟩ rfl rfl fun A F => ?_
  refine sw_end ?_
  show Code.wp _ _ _ _ _
  refine sw_seq ?_
  refine sw_seq ?_
  refine sw_reg ?_
  refine sw_fld F 0 ⟨rfl, rfl, rfl⟩ rfl (by kernel_rfl) rfl rfl fun A F => ?_
  refine sw_cell F M 0 ⟨rfl, rfl, rfl⟩ rfl rfl rfl (by kernel_rfl) rfl fun A F => ?_
  refine sw_eql F ⟨rfl, rfl, rfl⟩ rfl rfl rfl fun A F => ?_
  refine sw_move F ⟨rfl, rfl, rfl⟩ rfl rfl fun A F => ?_
  refine sw_on F 3 rfl rfl rfl rfl rfl ?_
  refine sw_fld F 0 ⟨rfl, rfl, rfl⟩ rfl (by kernel_rfl) rfl rfl fun A F => ?_
  refine sw_on F 3 rfl rfl rfl rfl rfl ?_
  refine sw_cell F M 0 ⟨rfl, rfl, rfl⟩ rfl rfl rfl (by kernel_rfl) rfl fun A F => ?_
  refine sw_on F 3 rfl rfl rfl rfl rfl ?_
  refine sw_eql F ⟨rfl, rfl, rfl⟩ rfl rfl rfl fun A F => ?_
  refine sw_pickF F ⟨rfl, rfl, rfl⟩ rfl rfl rfl fun A F => ?_
  refine sw_end ?_
  show Code.wp _ _ _ _ _
  refine sw_false F rfl ?_
  refine wp_skip ?_
  show Code.wp _ _ _ _ _
  refine sw_seq ?_
  refine wp_block ?_
  refine sw_seq ?_
  refine sw_reg ?_
  refine sw_fld F 0 ⟨rfl, rfl, rfl⟩ rfl (by kernel_rfl) rfl rfl fun A F => ?_
  refine sw_cell F M 0 ⟨rfl, rfl, rfl⟩ rfl rfl rfl (by kernel_rfl) rfl fun A F => ?_
  refine sw_eql F ⟨rfl, rfl, rfl⟩ rfl rfl rfl fun A F => ?_
  refine sw_asg F ⟨rfl, rfl, rfl⟩ rfl rfl fun A F => ?_
  refine sw_end ?_
  show Code.wp _ _ _ _ _
  refine sw_false F rfl ?_
  refine sw_seq ?_
  refine sw_reg ?_
  refine sw_fld F 0 ⟨rfl, rfl, rfl⟩ rfl (by kernel_rfl) rfl rfl fun A F => ?_
  refine sw_cell F M 0 ⟨rfl, rfl, rfl⟩ rfl rfl rfl (by kernel_rfl) rfl fun A F => ?_
  refine sw_eql F ⟨rfl, rfl, rfl⟩ rfl rfl rfl fun A F => ?_
  refine sw_asg F ⟨rfl, rfl, rfl⟩ rfl rfl fun A F => ?_
  refine sw_end ?_
  show Code.wp _ _ _ _ _
  refine sw_true F rfl ?_
  refine sw_seq ?_
  refine sw_reg ?_
  refine sw_move F ⟨rfl, rfl, rfl⟩ rfl rfl fun A F => ?_
  refine sw_call0 (rnext_m text c b (.ok σ)) F M ⟨rfl, rfl, rfl⟩ rfl rfl ?_
  rintro _ S3 A w ⟨_, h4⟩ F M
  refine sw_end ?_
  show Code.wp _ _ _ _ _
  refine sw_seq ?_
  refine sw_reg ?_
  refine sw_fld F 1 ⟨rfl, rfl, rfl⟩ rfl (by kernel_rfl) rfl rfl fun A F => ?_
  refine sw_cell F M 0 ⟨rfl, rfl, rfl⟩ rfl rfl rfl (by kernel_rfl) rfl fun A F => ?_
  refine sw_build F _ [.int .i64 3, .int .i64 0, .string (str tx0), .slice none 0 0] ⟨rfl, rfl, rfl⟩ rfl (by kernel_rfl) rfl fun A F => ?_
  refine sw_alloc F M [.int .i64 0, .int .i64 0, .string ⟨#[]⟩, .slice none 0 0] ⟨rfl, rfl, rfl⟩ (by kernel_rfl) rfl fun x5 A w F M => ?_
  refine sw_setAll F M 0 ⟨rfl, rfl, rfl⟩ rfl rfl rfl (by kernel_rfl) rfl rfl fun w M => ?_
  simp only [List.set_cons_zero, List.set_cons_succ] at M
  refine sw_end ?_
  show Code.wp _ _ _ _ _
  refine sw_seq ?_
  refine sw_reg ?_
  refine sw_move F ⟨rfl, rfl, rfl⟩ rfl rfl fun A F => ?_
  refine sw_call0 (ris_m [91] text c b S3) F M ⟨rfl, rfl, rfl⟩ rfl rfl ?_
  rintro _ _ A w ⟨_, rfl, rfl⟩ F M
  refine sw_asg F ⟨rfl, rfl, rfl⟩ rfl rfl fun A F => ?_
  refine sw_end ?_
  show Code.wp _ _ _ _ _
  refine sw_seq ?_
  refine sw_reg ?_
  refine sw_move F ⟨rfl, rfl, rfl⟩ rfl rfl fun A F => ?_
  refine sw_call0 (ris_m [40] text c b S3) F M ⟨rfl, rfl, rfl⟩ rfl rfl ?_
  rintro _ _ A w ⟨_, rfl, rfl⟩ F M
  refine sw_asg F ⟨rfl, rfl, rfl⟩ rfl rfl fun A F => ?_
  refine sw_end ?_
  show Code.wp _ _ _ _ _
  refine sw_seq ?_
  refine sw_seq ?_
  refine sw_reg ?_
  refine sw_move F ⟨rfl, rfl, rfl⟩ rfl rfl fun A F => ?_
  refine sw_end ?_
  show Code.wp _ _ _ _ _
  refine sw_cond F rfl (fun hc6 => ?_) (fun hc6 => ?_)
  · skip
    have hat := hc6
    refine sw_seq ?_
    refine sw_reg ?_
    refine sw_fld F 0 ⟨rfl, rfl, rfl⟩ rfl (by kernel_rfl) rfl rfl fun A F => ?_
    refine sw_set F M 0 ⟨rfl, rfl, rfl⟩ rfl rfl rfl (by kernel_rfl) rfl rfl rfl fun w M => ?_
    simp only [List.set_cons_zero, List.set_cons_succ] at M
    refine sw_end ?_
    show Code.wp _ _ _ _ _
    refine sw_seq ?_
    refine sw_reg ?_
    refine sw_move F ⟨rfl, rfl, rfl⟩ rfl rfl fun A F => ?_
    refine sw_call0 (ropen_m [91] text c b S3) F M ⟨rfl, rfl, rfl⟩ rfl rfl ?_
    rintro _ S7 A w ⟨_, h8⟩ F M
    refine sw_end ?_
    show Code.wp _ _ _ _ _
    refine sw_seq ?_
    refine sw_reg ?_
    refine sw_move F ⟨rfl, rfl, rfl⟩ rfl rfl fun A F => ?_
    refine sw_call (IH S7 1 (by have := rv_hnext h4 hhere; have := h8.shr (fun _ => Shr.open _); omega) (by omega) (by omega)) F M ⟨rfl, rfl, rfl⟩ rfl rfl ?_
    rintro _ _ S9 A w ⟨op10, m10, s10, la10, lc10, es10, rfl, rfl, h10⟩ F M
    refine sw_alloc F M [.int .i64 0, .int .i64 0, .string ⟨#[]⟩, .slice none 0 0] ⟨rfl, rfl, rfl⟩ (by kernel_rfl) rfl fun x12 A w F M => ?_
    refine sw_setAll F M 0 ⟨rfl, rfl, rfl⟩ rfl rfl rfl (by kernel_rfl) rfl rfl fun w M => ?_
    simp only [List.set_cons_zero, List.set_cons_succ] at M
    refine sw_end ?_
    show Code.wp _ _ _ _ _
    refine sw_seq ?_
    refine sw_reg ?_
    refine sw_move F ⟨rfl, rfl, rfl⟩ rfl rfl fun A F => ?_
    refine sw_call0 (rshut_m [93] text c b S9) F M ⟨rfl, rfl, rfl⟩ rfl rfl ?_
    rintro _ S13 A w ⟨_, h14⟩ F M
    refine sw_end ?_
    show Code.wp _ _ _ _ _
    refine sw_reg ?_
    refine sw_all F M 0 ⟨rfl, rfl, rfl⟩ rfl rfl (by kernel_rfl) (by kernel_rfl) rfl fun A F => ?_
    refine sw_mkrow (ety := 73) (sz := 4) (z := .agg #[.int .i64 0, .int .i64 0, .string ⟨#[]⟩, .slice none 0 0]) F M _ [exF op10 m10 s10 la10 lc10 es10] ⟨rfl, rfl, rfl⟩ rfl (by kernel_rfl) (by kernel_rfl) rfl (by kernel_rfl) rfl ?_ ?_ rfl fun x15 A w F M => ?_
    · intro g hg
      simp only [List.mem_cons, List.not_mem_nil, or_false] at hg
      rcases hg with rfl
      · exact ⟨rfl, (M.mem.vals 1 rfl).1⟩
    · intro i f b hf hm g hg
      simp only [List.mem_cons, List.not_mem_nil, or_false] at hg
      rcases hg with rfl
      · exact (M.mem.vals 1 rfl).2 i f b hf hm
    refine sw_fld F 3 ⟨rfl, rfl, rfl⟩ rfl (by kernel_rfl) rfl rfl fun A F => ?_
    refine sw_set F M 3 ⟨rfl, rfl, rfl⟩ rfl rfl rfl (by kernel_rfl) rfl rfl rfl fun w M => ?_
    simp only [List.set_cons_zero, List.set_cons_succ] at M
    refine sw_end ?_
    show Code.wp _ _ _ _ _
    refine sw_seq ?_
    refine sw_seq ?_
    refine sw_reg ?_
    refine sw_move F ⟨rfl, rfl, rfl⟩ rfl rfl fun A F => ?_
    refine sw_end ?_
    show Code.wp _ _ _ _ _
    refine sw_cond F rfl (fun hc17 => ?_) (fun hc17 => ?_)
    · skip
      have huse := hc17
      exact absurd huse (by rw [stands_one hat (by decide)]; decide)
    · skip
      have huse := hc17
      refine wp_skip ?_
      show Code.wp _ _ _ _ _
      refine sw_seq ?_
      refine sw_reg ?_
      refine sw_all F M 3 ⟨rfl, rfl, rfl⟩ rfl rfl (by kernel_rfl) (by kernel_rfl) rfl fun A F => ?_
      refine sw_setAll F M 5 ⟨rfl, rfl, rfl⟩ rfl rfl rfl (by kernel_rfl) rfl rfl fun w M => ?_
      simp only [List.set_cons_zero, List.set_cons_succ] at M
      refine sw_end ?_
      show Code.wp _ _ _ _ _
      refine wp_ret ?_
      repeat (first | refine then_ret ?_ | refine block_ret ?_)
      obtain rfl : tx0 = s := by have := hr0.2.1; rw [hn] at this; exact this
      exact sw_retbox F M 5 Tryd.results69 rfl rfl (by kernel_rfl) (by kernel_rfl) ⟨_, exF 4 0 tx0 (some ⟨x15, 0, none⟩) 1 [exF op10 m10 s10 la10 lc10 es10], S13, rfl, M.but, M.st, lie_cons (by constructor <;> omega) (lie_cons (by constructor <;> omega) (lie_cons trivial (lie_cons (M.mem.rowlie 0 rfl) (lie_nil _ _)))), 4, 0, tx0, _, _, _, rfl, rfl, atom_name hn h4 (name_at hat h8 h10 h14)⟩
  · skip
    have hat := hc6
    refine wp_skip ?_
    show Code.wp _ _ _ _ _
    refine sw_seq ?_
    refine sw_seq ?_
    refine sw_reg ?_
    refine sw_move F ⟨rfl, rfl, rfl⟩ rfl rfl fun A F => ?_
    refine sw_end ?_
    show Code.wp _ _ _ _ _
    refine sw_cond F rfl (fun hc18 => ?_) (fun hc18 => ?_)
    · skip
      have huse := hc18
      refine sw_seq ?_
      refine sw_reg ?_
      refine sw_fld F 0 ⟨rfl, rfl, rfl⟩ rfl (by kernel_rfl) rfl rfl fun A F => ?_
      refine sw_set F M 0 ⟨rfl, rfl, rfl⟩ rfl rfl rfl (by kernel_rfl) rfl rfl rfl fun w M => ?_
      simp only [List.set_cons_zero, List.set_cons_succ] at M
      refine sw_end ?_
      show Code.wp _ _ _ _ _
      refine sw_reg ?_
      refine sw_move F ⟨rfl, rfl, rfl⟩ rfl rfl fun A F => ?_
      refine sw_call (rargs_of text c b IH S3 (by have := rv_hnext h4 hhere; omega)) F M ⟨rfl, rfl, rfl⟩ rfl rfl ?_
      rintro _ _ S19 A w ⟨la20, lc20, es20, rfl, rfl, f420, h20⟩ F M
      refine sw_fld F 3 ⟨rfl, rfl, rfl⟩ rfl (by kernel_rfl) rfl rfl fun A F => ?_
      refine sw_set F M 1 ⟨rfl, rfl, rfl⟩ rfl rfl rfl (by kernel_rfl) rfl rfl rfl fun w M => ?_
      simp only [List.set_cons_zero, List.set_cons_succ] at M
      refine sw_end ?_
      show Code.wp _ _ _ _ _
      refine sw_seq ?_
      refine sw_reg ?_
      refine sw_all F M 1 ⟨rfl, rfl, rfl⟩ rfl rfl (by kernel_rfl) (by kernel_rfl) rfl fun A F => ?_
      refine sw_setAll F M 3 ⟨rfl, rfl, rfl⟩ rfl rfl rfl (by kernel_rfl) rfl rfl fun w M => ?_
      simp only [List.set_cons_zero, List.set_cons_succ] at M
      refine sw_end ?_
      show Code.wp _ _ _ _ _
      refine wp_ret ?_
      repeat (first | refine then_ret ?_ | refine block_ret ?_)
      obtain rfl : tx0 = s := by have := hr0.2.1; rw [hn] at this; exact this
      exact sw_retbox F M 3 Tryd.results69 rfl rfl (by kernel_rfl) (by kernel_rfl) ⟨_, exF 5 0 tx0 la20 lc20 es20, S19, rfl, M.but, M.st, lie_cons (by constructor <;> omega) (lie_cons (by constructor <;> omega) (lie_cons trivial (lie_cons (M.mem.vallie 0 rfl) (lie_nil _ _)))), 5, 0, tx0, _, _, _, rfl, rfl, atom_name hn h4 (name_use hat huse h20)⟩
    · skip
      have huse := hc18
      refine wp_skip ?_
      show Code.wp _ _ _ _ _
      refine sw_seq ?_
      refine sw_reg ?_
      refine sw_all F M 0 ⟨rfl, rfl, rfl⟩ rfl rfl (by kernel_rfl) (by kernel_rfl) rfl fun A F => ?_
      refine sw_setAll F M 2 ⟨rfl, rfl, rfl⟩ rfl rfl rfl (by kernel_rfl) rfl rfl fun w M => ?_
      simp only [List.set_cons_zero, List.set_cons_succ] at M
      refine sw_end ?_
      show Code.wp _ _ _ _ _
      refine wp_ret ?_
      repeat (first | refine then_ret ?_ | refine block_ret ?_)
      obtain rfl : tx0 = s := by have := hr0.2.1; rw [hn] at this; exact this
      exact sw_retbox F M 2 Tryd.results69 rfl rfl (by kernel_rfl) (by kernel_rfl) ⟨_, exF 3 0 tx0 none 0 [], S3, rfl, M.but, M.st, lie_cons (by constructor <;> omega) (lie_cons (by constructor <;> omega) (lie_cons trivial (lie_cons ⟨Nat.le_refl _, Nat.zero_le _, .inl rfl⟩ (lie_nil _ _)))), 3, 0, tx0, none, 0, [], rfl, rfl, atom_name hn h4 (name_plain hat huse)⟩
end Go.Proofs.YtgpjlocgkdlnlaaDoor
