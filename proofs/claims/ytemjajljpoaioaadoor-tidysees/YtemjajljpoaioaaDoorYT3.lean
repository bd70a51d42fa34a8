import Derived.Test.YtemjajljpoaioaaDoorM26
namespace Go.Proofs.YtemjajljpoaioaaDoor
open Go.RowKit
set_option linter.unusedVariables false
set_option linter.unusedSimpArgs false
set_option maxRecDepth 20000
set_option maxHeartbeats 8000000
section
variable {P : Program} {ops : Array Oper} {Q : Exit → Act → World → Prop} {a : Act} {w : World} {rest : List Oper} {o : Oper} {N : Nat} {L : List (Nat × Value)} {i t u : Nat} {x y : Operand}
theorem sw_enilT (F : Fm N L a) {e : TypeId} {m c : Nat} (h : Is o (some i) (.binOp .eql t x y u)) (h1 : opv L x = some (.slice none m c)) (h2 : opv L y = some (.slice none 0 0)) (hu : P.underlying t = some (.slice e)) (hi : Nat.blt i N = true) (K : ∀ a', Fm N ((i, .bool true) :: L) a' → wpList P ops Q rest a' w) : wpList P ops Q (o :: rest) a w :=
 sw_val F h.1 h.2.2 hi (by
  have n : (binOp .eql t (.slice none m c) (.slice none 0 0)).run P w = .ok (.bool true) w := by
   have h : (Op.equal t (.slice none m c) (.slice none 0 0)).run P w = .ok true w := by
    unfold Op.equal Op.maxDepth Op.equalIn
    simp [run_underlying hu]
   show (do pure (.bool (← Op.equal t (.slice none m c) (.slice none 0 0))) : Sem Value).run P w = _
   rw [Sem.run_bind, h]
   rfl
  unfold execOp; rw [h.2.1]; simp [F.ev h1, F.ev h2, eqGuard]; rw [n]; rfl) K
theorem sw_enilF (F : Fm N L a) {e : TypeId} {p : Addr} {m c : Nat} (h : Is o (some i) (.binOp .eql t x y u)) (h1 : opv L x = some (.slice (some p) m c)) (h2 : opv L y = some (.slice none 0 0)) (hu : P.underlying t = some (.slice e)) (hi : Nat.blt i N = true) (K : ∀ a', Fm N ((i, .bool false) :: L) a' → wpList P ops Q rest a' w) : wpList P ops Q (o :: rest) a w :=
 sw_val F h.1 h.2.2 hi (by
  have n : (binOp .eql t (.slice (some p) m c) (.slice none 0 0)).run P w = .ok (.bool false) w := by
   have h : (Op.equal t (.slice (some p) m c) (.slice none 0 0)).run P w = .ok false w := by
    unfold Op.equal Op.maxDepth Op.equalIn
    simp [run_underlying hu]
   show (do pure (.bool (← Op.equal t (.slice (some p) m c) (.slice none 0 0))) : Sem Value).run P w = _
   rw [Sem.run_bind, h]
   rfl
  unfold execOp; rw [h.2.1]; simp [F.ev h1, F.ev h2, eqGuard]; rw [n]; rfl) K
end
def CloQ (sz : Nat) (ety : TypeId) (la : Option Addr) (gss : List (List Fld)) (w w' : World) (e : Ending) : Prop :=
 (la = none ∧ e = .returned (.slice none 0 0)) ∨ ∃ g c zs, e = .returned (.slice (some ⟨g, 0, none⟩) gss.length c) ∧ RxOk sz c gss zs ∧ w.heap.size ≤ g ∧ Blk w' g (flatV gss ++ zs).toArray ety
def SrcOf (w : World) (la : Option Addr) (gss : List (List Fld)) : Prop := gss ≠ [] → ∃ b o, la = some ⟨b, o, none⟩ ∧ ∀ j u, (flatV gss)[j]? = some u → w.cell? ⟨b, o + j, none⟩ = some u
set_option maxRecDepth 20000 in
set_option maxHeartbeats 8000000 in
theorem cloneI_m {w0 : World} {la : Option Addr} {lc : Nat} {gss : List (List Fld)} (hs : SrcOf w0 la gss) (hd : ∀ d ∈ gss, d.length = 3) (hb : gss.length ≤ 100000000000) : Calls Tryd.prog 32 ([.slice la gss.length lc] : List Value).toArray w0 fun e w' => CloQ 3 31 la gss w0 w' e ∧ Below w0.heap.size w0 w' := by
 have M := bx_begin (w0 := w0) (w := w0) (Below.refl _ _)
 refine sw_fn Tryd.func32 rfl 8 Tryd.ntmps32 rfl fun A F => ?_
 refine sw_seq (sw_reg ?_)
 refine sw_asg F ⟨rfl, rfl, rfl⟩ rfl rfl fun A F => ?_
 refine sw_end ?_
 show Code.wp _ _ _ _ _
 refine sw_seq (sw_seq (sw_reg ?_))
 refine sw_move F ⟨rfl, rfl, rfl⟩ rfl rfl fun A F => ?_
 cases la with
 | none =>
  have hg : gss = [] := by
   cases gss with
   | nil => rfl
   | cons d r => obtain ⟨b, o, q, _⟩ := hs (by simp); cases q
  subst hg
  refine sw_enilT F ⟨rfl, rfl, rfl⟩ rfl rfl Tryd.underlying32 rfl fun A F => ?_
  refine sw_end ?_
  show Code.wp _ _ _ _ _
  refine sw_true F rfl ?_
  refine sw_seq (sw_reg ?_)
  refine sw_asg F ⟨rfl, rfl, rfl⟩ rfl rfl fun A F => ?_
  refine sw_end ?_
  show Code.wp _ _ _ _ _
  refine wp_ret ?_
  repeat (first | refine then_ret ?_ | refine block_ret ?_)
  exact sw_rettmp F Tryd.results32 rfl ⟨.inl ⟨rfl, rfl⟩, M.st⟩
 | some p =>
  refine sw_enilF F ⟨rfl, rfl, rfl⟩ rfl rfl Tryd.underlying32 rfl fun A F => ?_
  refine sw_end ?_
  show Code.wp _ _ _ _ _
  refine sw_false F rfl ?_
  refine wp_skip ?_
  show Code.wp _ _ _ _ _
  refine sw_seq (sw_reg ?_)
  refine sw_new0 F M ⟨rfl, rfl, rfl⟩ Tryd.underlying32 (by kernel_rfl) rfl fun x1 A w F M => ?_
  refine sw_move F ⟨rfl, rfl, rfl⟩ rfl rfl fun A F => ?_
  by_cases hne : gss = []
  ·subst hne
   obtain ⟨ii, ii1, ii2, ii3, ii4⟩ := info_parts3 (show (Tryd.prog.info? 31).map (fun i => (i.zero, i.size, decide (i.bytes ≤ 1000))) = some (some (.agg #[.int .i64 0, .int .i64 0, .int .i64 0]), 3, true) by kernel_rfl)
   refine wpList_append_run rfl _ _ _ rfl (.slice (some ⟨x1, 0, none⟩) 0 0) (.slice (some p) 0 lc) (.slice (some ⟨x1, 0, none⟩) 0 0) w (F.ev rfl) (F.ev rfl) (run_app0 Tryd.underlying32 (by rw [ii1]; rfl) (Nat.le_refl _)) ?_
   replace F := F.put (i := 7) (v := .slice (some ⟨x1, 0, none⟩) 0 0) rfl
   refine sw_asg F ⟨rfl, rfl, rfl⟩ rfl rfl fun A F => ?_
   refine sw_end ?_
   show Code.wp _ _ _ _ _
   refine wp_ret ?_
   repeat (first | refine then_ret ?_ | refine block_ret ?_)
   exact sw_rettmp F Tryd.results32 rfl ⟨.inr ⟨x1, 0, [], rfl, RxOk.zero _, (M.mem.box (k := 0) rfl).2, (M.mem.box (k := 0) rfl).1⟩, M.st⟩
  ·obtain ⟨b, o, q, hsrc⟩ := hs hne
   cases q
   refine sw_appX (sz := 3) (z := .agg #[.int .i64 0, .int .i64 0, .int .i64 0]) F M 0 (es := []) (zs := []) (gss := gss) (ad := ⟨b, o, none⟩) ⟨rfl, rfl, rfl⟩ rfl rfl (RxOk.zero _) rfl rfl rfl rfl Tryd.underlying32 (by kernel_rfl) rfl rfl (fun q u hq => ?_) hd (by simpa using hb) rfl fun g c zs A w ok F M => ?_
   ·have e0 : (⟨b, o, none⟩ : Addr).add q = ⟨b, o + q, none⟩ := by unfold Addr.add; split <;> simp_all
    rw [e0]
    exact ((M.st).cell (p := ⟨b, o + q, none⟩) (by
     have := hsrc q u hq
     unfold World.cell? at this
     cases hh : w0.heap[b]? with
     | none => rw [hh] at this; simp at this
     | some _ => exact (Array.getElem?_eq_some_iff.1 hh).1)).trans (hsrc q u hq)
   ·refine sw_asg F ⟨rfl, rfl, rfl⟩ rfl rfl fun A F => ?_
    refine sw_end ?_
    show Code.wp _ _ _ _ _
    refine wp_ret ?_
    repeat (first | refine then_ret ?_ | refine block_ret ?_)
    exact sw_rettmp F Tryd.results32 rfl ⟨.inr ⟨g, c, zs, rfl, ok, (M.mem.box (k := 0) rfl).2, (M.mem.box (k := 0) rfl).1⟩, M.st⟩
set_option maxRecDepth 20000 in
set_option maxHeartbeats 8000000 in
theorem cloneP_m {w0 : World} {la : Option Addr} {lc : Nat} {gss : List (List Fld)} (hs : SrcOf w0 la gss) (hd : ∀ d ∈ gss, d.length = 5) (hb : gss.length ≤ 100000000000) : Calls Tryd.prog 11 ([.slice la gss.length lc] : List Value).toArray w0 fun e w' => CloQ 5 34 la gss w0 w' e ∧ Below w0.heap.size w0 w' := by
 have M := bx_begin (w0 := w0) (w := w0) (Below.refl _ _)
 refine sw_fn Tryd.func11 rfl 8 Tryd.ntmps11 rfl fun A F => ?_
 refine sw_seq (sw_reg ?_)
 refine sw_asg F ⟨rfl, rfl, rfl⟩ rfl rfl fun A F => ?_
 refine sw_end ?_
 show Code.wp _ _ _ _ _
 refine sw_seq (sw_seq (sw_reg ?_))
 refine sw_move F ⟨rfl, rfl, rfl⟩ rfl rfl fun A F => ?_
 cases la with
 | none =>
  have hg : gss = [] := by
   cases gss with
   | nil => rfl
   | cons d r => obtain ⟨b, o, q, _⟩ := hs (by simp); cases q
  subst hg
  refine sw_enilT F ⟨rfl, rfl, rfl⟩ rfl rfl Tryd.underlying22 rfl fun A F => ?_
  refine sw_end ?_
  show Code.wp _ _ _ _ _
  refine sw_true F rfl ?_
  refine sw_seq (sw_reg ?_)
  refine sw_asg F ⟨rfl, rfl, rfl⟩ rfl rfl fun A F => ?_
  refine sw_end ?_
  show Code.wp _ _ _ _ _
  refine wp_ret ?_
  repeat (first | refine then_ret ?_ | refine block_ret ?_)
  exact sw_rettmp F Tryd.results11 rfl ⟨.inl ⟨rfl, rfl⟩, M.st⟩
 | some p =>
  refine sw_enilF F ⟨rfl, rfl, rfl⟩ rfl rfl Tryd.underlying22 rfl fun A F => ?_
  refine sw_end ?_
  show Code.wp _ _ _ _ _
  refine sw_false F rfl ?_
  refine wp_skip ?_
  show Code.wp _ _ _ _ _
  refine sw_seq (sw_reg ?_)
  refine sw_new0 F M ⟨rfl, rfl, rfl⟩ Tryd.underlying22 (by kernel_rfl) rfl fun x1 A w F M => ?_
  refine sw_move F ⟨rfl, rfl, rfl⟩ rfl rfl fun A F => ?_
  by_cases hne : gss = []
  ·subst hne
   obtain ⟨ii, ii1, ii2, ii3, ii4⟩ := info_parts3 (show (Tryd.prog.info? 34).map (fun i => (i.zero, i.size, decide (i.bytes ≤ 1000))) = some (some (.agg #[.string ⟨#[]⟩, .bool false, .int .i64 0, .int .i64 0, .slice none 0 0]), 5, true) by kernel_rfl)
   refine wpList_append_run rfl _ _ _ rfl (.slice (some ⟨x1, 0, none⟩) 0 0) (.slice (some p) 0 lc) (.slice (some ⟨x1, 0, none⟩) 0 0) w (F.ev rfl) (F.ev rfl) (run_app0 Tryd.underlying22 (by rw [ii1]; rfl) (Nat.le_refl _)) ?_
   replace F := F.put (i := 7) (v := .slice (some ⟨x1, 0, none⟩) 0 0) rfl
   refine sw_asg F ⟨rfl, rfl, rfl⟩ rfl rfl fun A F => ?_
   refine sw_end ?_
   show Code.wp _ _ _ _ _
   refine wp_ret ?_
   repeat (first | refine then_ret ?_ | refine block_ret ?_)
   exact sw_rettmp F Tryd.results11 rfl ⟨.inr ⟨x1, 0, [], rfl, RxOk.zero _, (M.mem.box (k := 0) rfl).2, (M.mem.box (k := 0) rfl).1⟩, M.st⟩
  ·obtain ⟨b, o, q, hsrc⟩ := hs hne
   cases q
   refine sw_appX (sz := 5) (z := .agg #[.string ⟨#[]⟩, .bool false, .int .i64 0, .int .i64 0, .slice none 0 0]) F M 0 (es := []) (zs := []) (gss := gss) (ad := ⟨b, o, none⟩) ⟨rfl, rfl, rfl⟩ rfl rfl (RxOk.zero _) rfl rfl rfl rfl Tryd.underlying22 (by kernel_rfl) rfl rfl (fun q u hq => ?_) hd (by simpa using hb) rfl fun g c zs A w ok F M => ?_
   ·have e0 : (⟨b, o, none⟩ : Addr).add q = ⟨b, o + q, none⟩ := by unfold Addr.add; split <;> simp_all
    rw [e0]
    exact ((M.st).cell (p := ⟨b, o + q, none⟩) (by
     have := hsrc q u hq
     unfold World.cell? at this
     cases hh : w0.heap[b]? with
     | none => rw [hh] at this; simp at this
     | some _ => exact (Array.getElem?_eq_some_iff.1 hh).1)).trans (hsrc q u hq)
   ·refine sw_asg F ⟨rfl, rfl, rfl⟩ rfl rfl fun A F => ?_
    refine sw_end ?_
    show Code.wp _ _ _ _ _
    refine wp_ret ?_
    repeat (first | refine then_ret ?_ | refine block_ret ?_)
    exact sw_rettmp F Tryd.results11 rfl ⟨.inr ⟨g, c, zs, rfl, ok, (M.mem.box (k := 0) rfl).2, (M.mem.box (k := 0) rfl).1⟩, M.st⟩
set_option maxRecDepth 20000 in
set_option maxHeartbeats 8000000 in
theorem cloneS_m {w0 : World} {la : Option Addr} {lc : Nat} {gss : List (List Fld)} (hs : SrcOf w0 la gss) (hd : ∀ d ∈ gss, d.length = 1) (hb : gss.length ≤ 100000000000) : Calls Tryd.prog 12 ([.slice la gss.length lc] : List Value).toArray w0 fun e w' => CloQ 1 9 la gss w0 w' e ∧ Below w0.heap.size w0 w' := by
 have M := bx_begin (w0 := w0) (w := w0) (Below.refl _ _)
 refine sw_fn Tryd.func12 rfl 8 Tryd.ntmps12 rfl fun A F => ?_
 refine sw_seq (sw_reg ?_)
 refine sw_asg F ⟨rfl, rfl, rfl⟩ rfl rfl fun A F => ?_
 refine sw_end ?_
 show Code.wp _ _ _ _ _
 refine sw_seq (sw_seq (sw_reg ?_))
 refine sw_move F ⟨rfl, rfl, rfl⟩ rfl rfl fun A F => ?_
 cases la with
 | none =>
  have hg : gss = [] := by
   cases gss with
   | nil => rfl
   | cons d r => obtain ⟨b, o, q, _⟩ := hs (by simp); cases q
  subst hg
  refine sw_enilT F ⟨rfl, rfl, rfl⟩ rfl rfl Tryd.underlying23 rfl fun A F => ?_
  refine sw_end ?_
  show Code.wp _ _ _ _ _
  refine sw_true F rfl ?_
  refine sw_seq (sw_reg ?_)
  refine sw_asg F ⟨rfl, rfl, rfl⟩ rfl rfl fun A F => ?_
  refine sw_end ?_
  show Code.wp _ _ _ _ _
  refine wp_ret ?_
  repeat (first | refine then_ret ?_ | refine block_ret ?_)
  exact sw_rettmp F Tryd.results12 rfl ⟨.inl ⟨rfl, rfl⟩, M.st⟩
 | some p =>
  refine sw_enilF F ⟨rfl, rfl, rfl⟩ rfl rfl Tryd.underlying23 rfl fun A F => ?_
  refine sw_end ?_
  show Code.wp _ _ _ _ _
  refine sw_false F rfl ?_
  refine wp_skip ?_
  show Code.wp _ _ _ _ _
  refine sw_seq (sw_reg ?_)
  refine sw_new0 F M ⟨rfl, rfl, rfl⟩ Tryd.underlying23 (by kernel_rfl) rfl fun x1 A w F M => ?_
  refine sw_move F ⟨rfl, rfl, rfl⟩ rfl rfl fun A F => ?_
  by_cases hne : gss = []
  ·subst hne
   obtain ⟨ii, ii1, ii2, ii3, ii4⟩ := info_parts3 (show (Tryd.prog.info? 9).map (fun i => (i.zero, i.size, decide (i.bytes ≤ 1000))) = some (some (.string ⟨#[]⟩), 1, true) by kernel_rfl)
   refine wpList_append_run rfl _ _ _ rfl (.slice (some ⟨x1, 0, none⟩) 0 0) (.slice (some p) 0 lc) (.slice (some ⟨x1, 0, none⟩) 0 0) w (F.ev rfl) (F.ev rfl) (run_app0 Tryd.underlying23 (by rw [ii1]; rfl) (Nat.le_refl _)) ?_
   replace F := F.put (i := 7) (v := .slice (some ⟨x1, 0, none⟩) 0 0) rfl
   refine sw_asg F ⟨rfl, rfl, rfl⟩ rfl rfl fun A F => ?_
   refine sw_end ?_
   show Code.wp _ _ _ _ _
   refine wp_ret ?_
   repeat (first | refine then_ret ?_ | refine block_ret ?_)
   exact sw_rettmp F Tryd.results12 rfl ⟨.inr ⟨x1, 0, [], rfl, RxOk.zero _, (M.mem.box (k := 0) rfl).2, (M.mem.box (k := 0) rfl).1⟩, M.st⟩
  ·obtain ⟨b, o, q, hsrc⟩ := hs hne
   cases q
   refine sw_appX (sz := 1) (z := .string ⟨#[]⟩) F M 0 (es := []) (zs := []) (gss := gss) (ad := ⟨b, o, none⟩) ⟨rfl, rfl, rfl⟩ rfl rfl (RxOk.zero _) rfl rfl rfl rfl Tryd.underlying23 (by kernel_rfl) rfl rfl (fun q u hq => ?_) hd (by simpa using hb) rfl fun g c zs A w ok F M => ?_
   ·have e0 : (⟨b, o, none⟩ : Addr).add q = ⟨b, o + q, none⟩ := by unfold Addr.add; split <;> simp_all
    rw [e0]
    exact ((M.st).cell (p := ⟨b, o + q, none⟩) (by
     have := hsrc q u hq
     unfold World.cell? at this
     cases hh : w0.heap[b]? with
     | none => rw [hh] at this; simp at this
     | some _ => exact (Array.getElem?_eq_some_iff.1 hh).1)).trans (hsrc q u hq)
   ·refine sw_asg F ⟨rfl, rfl, rfl⟩ rfl rfl fun A F => ?_
    refine sw_end ?_
    show Code.wp _ _ _ _ _
    refine wp_ret ?_
    repeat (first | refine then_ret ?_ | refine block_ret ?_)
    exact sw_rettmp F Tryd.results12 rfl ⟨.inr ⟨g, c, zs, rfl, ok, (M.mem.box (k := 0) rfl).2, (M.mem.box (k := 0) rfl).1⟩, M.st⟩
end Go.Proofs.YtemjajljpoaioaaDoor
