/- The answer's Parser: shut, and its words. -/
import Derived.Test.YtgpjlocgkdlnlaaDoorM34

namespace Go.Proofs.YtgpjlocgkdlnlaaDoor
open Go.RowKit
set_option linter.unusedVariables false
set_option linter.unusedSimpArgs false

def downS : ES → ES
  | .ok σ => .ok { σ with lv := wrap64 (σ.lv - 1) }
  | .error e => .error e
theorem rel_down (S : ES) : Rel upT S () (downS S) := by
  cases S with
  | error e => rfl
  | ok σ => exact ⟨rfl, rfl⟩
theorem PBox.low {text : Key} {c : C4} {w : World} {b : Nat} {S : ES} (R : PBox text c w b S) : ∀ σ, S = .ok σ → (mu σ : Int) - 5000 ≤ σ.lv := fun σ e => by
  subst e
  obtain ⟨a, t, h1, h2, k, h3, h4, h5, h6⟩ := R
  exact h6
theorem PBox.high {text : Key} {c : C4} {w : World} {b : Nat} {S : ES} (R : PBox text c w b S) : ∀ σ, S = .ok σ → σ.lv ≤ 32 := fun σ e => by
  subst e
  obtain ⟨a, t, h1, h2, k, h3, h4, h5, h6⟩ := R
  exact h5
/-- A level ends. -/
theorem PBox.down {text : Key} {c : C4} {w : World} {b : Nat} {S : ES} (R : PBox text c w b S) (hu : Up S) : ∃ at_ kd tx n lv e, Blk w b (pC text at_ kd tx n lv e c) 43 ∧ ∀ w', Blk w' b (pC text at_ kd tx n (IntKind.i64.wrap (lv - 1)) e c) 43 → PBox text c w' b (downS S) := by
  cases S with
  | ok σ =>
    obtain ⟨a, t, h1, h2, k, h3, h4, h5, h6⟩ := R
    have hu : (mu σ : Int) - 4999 ≤ σ.lv := hu
    have e1 : IntKind.i64.wrap (σ.lv - 1) = σ.lv - 1 := wrapJ _ (by omega) (by omega)
    have e2 : wrap64 (σ.lv - 1) = σ.lv - 1 := by unfold wrap64; omega
    refine ⟨a, _, t, _, _, _, k, fun w' k' => ?_⟩
    rw [e1] at k'
    rw [downS, e2]
    refine ⟨a, t, h1, h2, k', h3, h4, by show σ.lv - 1 ≤ 32; omega, ?_⟩
    have : mu { σ with lv := σ.lv - 1 } = mu σ := rfl
    rw [this]
    show _ ≤ σ.lv - 1
    omega
  | error er =>
    obtain ⟨h, a, kd, t, n, lv, k⟩ := R
    exact ⟨a, kd, t, n, lv, er, k, fun w' k' => ⟨h, _, _, _, _, _, k'⟩⟩
set_option maxRecDepth 8000 in
set_option maxHeartbeats 3200000 in
theorem rshut_m (s : Key) (text : Key) (c : C4) (b : Nat) (S : ES) : Meth Tryd.prog (PdX text c b) (fun k => k = b) 52 [ptr b, .string (str s)] S fun v fs S' => Rv (fun _ => shutT s) S () S' := by
  refine ⟨by kernel_rfl, fun wO R _ => ?_⟩
  have M := pd_begin R
  have kn := (Kn.here (F := fun _ => shutT s) (S := S)).to fun _ => rfl
  have h0 := R.low
  refine sw_fn Tryd.func52 rfl 14 Tryd.ntmps52 rfl fun A F => ?_
  refine sw_seq ?_
  refine sw_reg ?_
  refine sw_move F ⟨rfl, rfl, rfl⟩ rfl rfl fun A F => ?_
  refine sw_move F ⟨rfl, rfl, rfl⟩ rfl rfl fun A F => ?_
  refine sw_call0 (rneed_m s text c b S) F M ⟨rfl, rfl, rfl⟩ rfl rfl ?_
  rintro _ S1 A w ⟨_, h2⟩ F M
  replace kn := kn.step h2
  refine sw_end ?_
  show Code.wp _ _ _ _ _
  refine sw_reg ?_
  refine sw_move F ⟨rfl, rfl, rfl⟩ rfl rfl fun A F => ?_
  refine sw_nil F ⟨rfl, rfl, rfl⟩ rfl rfl fun A F => ?_
  refine sw_fld F 5 ⟨rfl, rfl, rfl⟩ rfl (by kernel_rfl) rfl rfl fun A F => ?_
  obtain ⟨atq, kdq, txq, nq, lvq, eq, kb, hdn⟩ := M.st.down (up_take h0 h2)
  refine sw_ext F ((kb.cell 5).trans rfl) ⟨rfl, rfl, rfl⟩ rfl (by kernel_rfl) rfl fun A F => ?_
  refine sw_subw F ⟨rfl, rfl, rfl⟩ rfl rfl rfl fun A F => ?_
  refine sw_nil F ⟨rfl, rfl, rfl⟩ rfl rfl fun A F => ?_
  refine sw_fld F 5 ⟨rfl, rfl, rfl⟩ rfl (by kernel_rfl) rfl rfl fun A F => ?_
  refine sw_setX1 F ⟨rfl, rfl, rfl⟩ rfl rfl kb (by kernel_rfl) rfl rfl rfl fun w B kb => ?_
  replace M := M.unit B (hdn _ kb)
  replace kn := kn.last (Rv.of (rel_down S1))
  refine sw_end ?_
  repeat (first | refine then_norm ?_ | refine block_norm ?_)
  exact sw_endnone F Tryd.results52 ⟨_, [], (downS S1), rfl, M.but, M.st, lie_nil _ _, kn⟩
def leafI (s : Key) : Int := bif s == [115, 101, 108, 102] then 20 else bif s == [99, 97, 108, 108, 101, 114] then 21 else bif s == [118, 97, 108, 117, 101] then 22 else bif s == [104, 101, 105, 103, 104, 116] then 23 else 0
set_option maxRecDepth 8000 in
set_option maxHeartbeats 3200000 in
theorem rpLeaf_any (s : Key) (wO : World) : Calls Tryd.prog 79 ([.string (str s)] : List Value).toArray wO fun e w' => e = .returned (.int .i64 (leafI s)) ∧ w' = wO := by
  refine sw_fn Tryd.func79 rfl 12 Tryd.ntmps79 rfl fun A F => ?_
  refine sw_seq ?_
  refine sw_reg ?_
  refine sw_asg F ⟨rfl, rfl, rfl⟩ rfl rfl fun A F => ?_
  refine sw_end ?_
  show Code.wp _ _ _ _ _
  refine sw_seq ?_
  refine sw_seq ?_
  refine sw_reg ?_
  refine sw_move F ⟨rfl, rfl, rfl⟩ rfl rfl fun A F => ?_
  refine sw_end ?_
  show Code.wp _ _ _ _ _
  refine wp_block ?_
  refine sw_seq ?_
  refine sw_reg ?_
  refine sw_seq2 F ⟨rfl, rfl, rfl⟩ rfl rfl rfl fun A F => ?_
  refine sw_asg F ⟨rfl, rfl, rfl⟩ rfl rfl fun A F => ?_
  refine sw_end ?_
  show Code.wp _ _ _ _ _
  refine sw_cond F rfl (fun hc1 => ?_) (fun hc1 => ?_)
  · skip
    refine sw_seq ?_
    refine sw_reg ?_
    refine sw_asg F ⟨rfl, rfl, rfl⟩ rfl rfl fun A F => ?_
    refine sw_end ?_
    show Code.wp _ _ _ _ _
    refine wp_ret ?_
    repeat (first | refine then_ret ?_ | refine block_ret ?_)
    exact sw_rettmp F Tryd.results79 rfl ⟨by simp only [leafI, hc1, cond_true, cond_false], rfl⟩
  · skip
    refine sw_seq ?_
    refine sw_reg ?_
    refine sw_seq2 F ⟨rfl, rfl, rfl⟩ rfl rfl rfl fun A F => ?_
    refine sw_asg F ⟨rfl, rfl, rfl⟩ rfl rfl fun A F => ?_
    refine sw_end ?_
    show Code.wp _ _ _ _ _
    refine sw_cond F rfl (fun hc2 => ?_) (fun hc2 => ?_)
    · skip
      refine sw_seq ?_
      refine sw_reg ?_
      refine sw_asg F ⟨rfl, rfl, rfl⟩ rfl rfl fun A F => ?_
      refine sw_end ?_
      show Code.wp _ _ _ _ _
      refine wp_ret ?_
      repeat (first | refine then_ret ?_ | refine block_ret ?_)
      exact sw_rettmp F Tryd.results79 rfl ⟨by simp only [leafI, hc1, hc2, cond_true, cond_false], rfl⟩
    · skip
      refine sw_seq ?_
      refine sw_reg ?_
      refine sw_seq2 F ⟨rfl, rfl, rfl⟩ rfl rfl rfl fun A F => ?_
      refine sw_asg F ⟨rfl, rfl, rfl⟩ rfl rfl fun A F => ?_
      refine sw_end ?_
      show Code.wp _ _ _ _ _
      refine sw_cond F rfl (fun hc3 => ?_) (fun hc3 => ?_)
      · skip
        refine sw_seq ?_
        refine sw_reg ?_
        refine sw_asg F ⟨rfl, rfl, rfl⟩ rfl rfl fun A F => ?_
        refine sw_end ?_
        show Code.wp _ _ _ _ _
        refine wp_ret ?_
        repeat (first | refine then_ret ?_ | refine block_ret ?_)
        exact sw_rettmp F Tryd.results79 rfl ⟨by simp only [leafI, hc1, hc2, hc3, cond_true, cond_false], rfl⟩
      · skip
        refine sw_seq ?_
        refine sw_reg ?_
        refine sw_seq2 F ⟨rfl, rfl, rfl⟩ rfl rfl rfl fun A F => ?_
        refine sw_asg F ⟨rfl, rfl, rfl⟩ rfl rfl fun A F => ?_
        refine sw_end ?_
        show Code.wp _ _ _ _ _
        refine sw_cond F rfl (fun hc4 => ?_) (fun hc4 => ?_)
        · skip
          refine sw_seq ?_
          refine sw_reg ?_
          refine sw_asg F ⟨rfl, rfl, rfl⟩ rfl rfl fun A F => ?_
          refine sw_end ?_
          show Code.wp _ _ _ _ _
          refine wp_ret ?_
          repeat (first | refine then_ret ?_ | refine block_ret ?_)
          exact sw_rettmp F Tryd.results79 rfl ⟨by simp only [leafI, hc1, hc2, hc3, hc4, cond_true, cond_false], rfl⟩
        · skip
          refine wp_skip ?_
          show Code.wp _ _ _ _ _
          refine sw_seq ?_
          refine sw_reg ?_
          refine sw_asg F ⟨rfl, rfl, rfl⟩ rfl rfl fun A F => ?_
          refine sw_end ?_
          show Code.wp _ _ _ _ _
          refine wp_ret ?_
          repeat (first | refine then_ret ?_ | refine block_ret ?_)
          exact sw_rettmp F Tryd.results79 rfl ⟨by simp only [leafI, hc1, hc2, hc3, hc4, cond_true, cond_false], rfl⟩
def ofI (s : Key) : Int := bif s == [98, 97, 108, 97, 110, 99, 101] then 24 else bif s == [119, 104, 111] then 25 else bif s == [110, 117, 109] then 26 else 0
set_option maxRecDepth 8000 in
set_option maxHeartbeats 3200000 in
theorem rpOf_any (s : Key) (wO : World) : Calls Tryd.prog 80 ([.string (str s)] : List Value).toArray wO fun e w' => e = .returned (.int .i64 (ofI s)) ∧ w' = wO := by
  refine sw_fn Tryd.func80 rfl 10 Tryd.ntmps80 rfl fun A F => ?_
  refine sw_seq ?_
  refine sw_reg ?_
  refine sw_asg F ⟨rfl, rfl, rfl⟩ rfl rfl fun A F => ?_
  refine sw_end ?_
  show Code.wp _ _ _ _ _
  refine sw_seq ?_
  refine sw_seq ?_
  refine sw_reg ?_
  refine sw_move F ⟨rfl, rfl, rfl⟩ rfl rfl fun A F => ?_
  refine sw_end ?_
  show Code.wp _ _ _ _ _
  refine wp_block ?_
  refine sw_seq ?_
  refine sw_reg ?_
  refine sw_seq2 F ⟨rfl, rfl, rfl⟩ rfl rfl rfl fun A F => ?_
  refine sw_asg F ⟨rfl, rfl, rfl⟩ rfl rfl fun A F => ?_
  refine sw_end ?_
  show Code.wp _ _ _ _ _
  refine sw_cond F rfl (fun hc1 => ?_) (fun hc1 => ?_)
  · skip
    refine sw_seq ?_
    refine sw_reg ?_
    refine sw_asg F ⟨rfl, rfl, rfl⟩ rfl rfl fun A F => ?_
    refine sw_end ?_
    show Code.wp _ _ _ _ _
    refine wp_ret ?_
    repeat (first | refine then_ret ?_ | refine block_ret ?_)
    exact sw_rettmp F Tryd.results80 rfl ⟨by simp only [ofI, hc1, cond_true, cond_false], rfl⟩
  · skip
    refine sw_seq ?_
    refine sw_reg ?_
    refine sw_seq2 F ⟨rfl, rfl, rfl⟩ rfl rfl rfl fun A F => ?_
    refine sw_asg F ⟨rfl, rfl, rfl⟩ rfl rfl fun A F => ?_
    refine sw_end ?_
    show Code.wp _ _ _ _ _
    refine sw_cond F rfl (fun hc2 => ?_) (fun hc2 => ?_)
    · skip
      refine sw_seq ?_
      refine sw_reg ?_
      refine sw_asg F ⟨rfl, rfl, rfl⟩ rfl rfl fun A F => ?_
      refine sw_end ?_
      show Code.wp _ _ _ _ _
      refine wp_ret ?_
      repeat (first | refine then_ret ?_ | refine block_ret ?_)
      exact sw_rettmp F Tryd.results80 rfl ⟨by simp only [ofI, hc1, hc2, cond_true, cond_false], rfl⟩
    · skip
      refine sw_seq ?_
      refine sw_reg ?_
      refine sw_seq2 F ⟨rfl, rfl, rfl⟩ rfl rfl rfl fun A F => ?_
      refine sw_asg F ⟨rfl, rfl, rfl⟩ rfl rfl fun A F => ?_
      refine sw_end ?_
      show Code.wp _ _ _ _ _
      refine sw_cond F rfl (fun hc3 => ?_) (fun hc3 => ?_)
      · skip
        refine sw_seq ?_
        refine sw_reg ?_
        refine sw_asg F ⟨rfl, rfl, rfl⟩ rfl rfl fun A F => ?_
        refine sw_end ?_
        show Code.wp _ _ _ _ _
        refine wp_ret ?_
        repeat (first | refine then_ret ?_ | refine block_ret ?_)
        exact sw_rettmp F Tryd.results80 rfl ⟨by simp only [ofI, hc1, hc2, hc3, cond_true, cond_false], rfl⟩
      · skip
        refine wp_skip ?_
        show Code.wp _ _ _ _ _
        refine sw_seq ?_
        refine sw_reg ?_
        refine sw_asg F ⟨rfl, rfl, rfl⟩ rfl rfl fun A F => ?_
        refine sw_end ?_
        show Code.wp _ _ _ _ _
        refine wp_ret ?_
        repeat (first | refine then_ret ?_ | refine block_ret ?_)
        exact sw_rettmp F Tryd.results80 rfl ⟨by simp only [ofI, hc1, hc2, hc3, cond_true, cond_false], rfl⟩
def plainI (s : Key) : Int := bif s == [114, 101, 116, 117, 114, 110] then 6 else bif s == [110, 101, 101, 100] then 7 else bif s == [110, 111, 116, 101] then 9 else 0
set_option maxRecDepth 8000 in
set_option maxHeartbeats 3200000 in
theorem rpPlain_any (s : Key) (wO : World) : Calls Tryd.prog 63 ([.string (str s)] : List Value).toArray wO fun e w' => e = .returned (.int .i64 (plainI s)) ∧ w' = wO := by
  refine sw_fn Tryd.func63 rfl 10 Tryd.ntmps63 rfl fun A F => ?_
  refine sw_seq ?_
  refine sw_reg ?_
  refine sw_asg F ⟨rfl, rfl, rfl⟩ rfl rfl fun A F => ?_
  refine sw_end ?_
  show Code.wp _ _ _ _ _
  refine sw_seq ?_
  refine sw_seq ?_
  refine sw_reg ?_
  refine sw_move F ⟨rfl, rfl, rfl⟩ rfl rfl fun A F => ?_
  refine sw_end ?_
  show Code.wp _ _ _ _ _
  refine wp_block ?_
  refine sw_seq ?_
  refine sw_reg ?_
  refine sw_seq2 F ⟨rfl, rfl, rfl⟩ rfl rfl rfl fun A F => ?_
  refine sw_asg F ⟨rfl, rfl, rfl⟩ rfl rfl fun A F => ?_
  refine sw_end ?_
  show Code.wp _ _ _ _ _
  refine sw_cond F rfl (fun hc1 => ?_) (fun hc1 => ?_)
  · skip
    refine sw_seq ?_
    refine sw_reg ?_
    refine sw_asg F ⟨rfl, rfl, rfl⟩ rfl rfl fun A F => ?_
    refine sw_end ?_
    show Code.wp _ _ _ _ _
    refine wp_ret ?_
    repeat (first | refine then_ret ?_ | refine block_ret ?_)
    exact sw_rettmp F Tryd.results63 rfl ⟨by simp only [plainI, hc1, cond_true, cond_false], rfl⟩
  · skip
    refine sw_seq ?_
    refine sw_reg ?_
    refine sw_seq2 F ⟨rfl, rfl, rfl⟩ rfl rfl rfl fun A F => ?_
    refine sw_asg F ⟨rfl, rfl, rfl⟩ rfl rfl fun A F => ?_
    refine sw_end ?_
    show Code.wp _ _ _ _ _
    refine sw_cond F rfl (fun hc2 => ?_) (fun hc2 => ?_)
    · skip
      refine sw_seq ?_
      refine sw_reg ?_
      refine sw_asg F ⟨rfl, rfl, rfl⟩ rfl rfl fun A F => ?_
      refine sw_end ?_
      show Code.wp _ _ _ _ _
      refine wp_ret ?_
      repeat (first | refine then_ret ?_ | refine block_ret ?_)
      exact sw_rettmp F Tryd.results63 rfl ⟨by simp only [plainI, hc1, hc2, cond_true, cond_false], rfl⟩
    · skip
      refine sw_seq ?_
      refine sw_reg ?_
      refine sw_seq2 F ⟨rfl, rfl, rfl⟩ rfl rfl rfl fun A F => ?_
      refine sw_asg F ⟨rfl, rfl, rfl⟩ rfl rfl fun A F => ?_
      refine sw_end ?_
      show Code.wp _ _ _ _ _
      refine sw_cond F rfl (fun hc3 => ?_) (fun hc3 => ?_)
      · skip
        refine sw_seq ?_
        refine sw_reg ?_
        refine sw_asg F ⟨rfl, rfl, rfl⟩ rfl rfl fun A F => ?_
        refine sw_end ?_
        show Code.wp _ _ _ _ _
        refine wp_ret ?_
        repeat (first | refine then_ret ?_ | refine block_ret ?_)
        exact sw_rettmp F Tryd.results63 rfl ⟨by simp only [plainI, hc1, hc2, hc3, cond_true, cond_false], rfl⟩
      · skip
        refine wp_skip ?_
        show Code.wp _ _ _ _ _
        refine sw_seq ?_
        refine sw_reg ?_
        refine sw_asg F ⟨rfl, rfl, rfl⟩ rfl rfl fun A F => ?_
        refine sw_end ?_
        show Code.wp _ _ _ _ _
        refine wp_ret ?_
        repeat (first | refine then_ret ?_ | refine block_ret ?_)
        exact sw_rettmp F Tryd.results63 rfl ⟨by simp only [plainI, hc1, hc2, hc3, cond_true, cond_false], rfl⟩
end Go.Proofs.YtgpjlocgkdlnlaaDoor

namespace Go.Proofs.YtgpjlocgkdlnlaaDoor
open Go.RowKit
set_option linter.unusedVariables false
set_option linter.unusedSimpArgs false

theorem flatV_at {sz : Nat} : ∀ (es : List (List Fld)) (k : Nat) (d : List Fld), (∀ d ∈ es, d.length = sz) → es[k]? = some d → ∀ i u, (d.map Fld.val)[i]? = some u → (flatV es)[k * sz + i]? = some u
  | [], k, d, hl, hk, i, u, hi => by simp at hk
  | e :: es, 0, d, hl, hk, i, u, hi => by
    simp at hk
    subst hk
    show (e.map Fld.val ++ flatV es)[0 * sz + i]? = some u
    have : i < (e.map Fld.val).length := (List.getElem?_eq_some_iff.1 hi).1
    rw [Nat.zero_mul, Nat.zero_add, List.getElem?_append_left this]
    exact hi
  | e :: es, k + 1, d, hl, hk, i, u, hi => by
    show (e.map Fld.val ++ flatV es)[(k + 1) * sz + i]? = some u
    have h1 : (e.map Fld.val).length = sz := by rw [List.length_map]; exact hl e (List.mem_cons_self ..)
    have h2 : (k + 1) * sz + i = sz + (k * sz + i) := by rw [Nat.succ_mul]; omega
    rw [h2, List.getElem?_append_right (by omega), h1, Nat.add_sub_cancel_left]
    exact flatV_at es k d (fun x hx => hl x (List.mem_cons_of_mem _ hx)) (by simpa using hk) i u hi
/-- A thing of a row, in its cells. -/
theorem lie_range (sz : Nat) {lo : Nat} {w : World} {b o lc : Nat} {es : List (List Fld)} (h : (Fld.l (some ⟨b, o, none⟩) lc es).lies lo w) (hl : ∀ d ∈ es, d.length = sz) {k : Nat} {d : List Fld} (hk : es[k]? = some d) : w.rangeAt b (o + k * sz) (d.map Fld.val) := fun i u hi => by
  obtain ⟨h1, h2, h3⟩ := h
  rcases h3 with h3 | ⟨rb, ro, e, q1, q2, q3⟩
  · subst h3
    simp at hk
  · injection e with e
    injection e with e1 e2 _
    subst e1 e2
    have := (rowsLie_src q3).1 _ u (flatV_at es k d hl hk i u hi)
    rw [Nat.add_assoc]
    exact this
section
variable {P : Program} {ops : Array Oper} {Q : Exit → Act → World → Prop} {a : Act} {w : World} {rest : List Oper} {o : Oper} {N : Nat} {L : List (Nat × Value)}
theorem sw_rng (F : Fm N L a) {i : Nat} {t : TypeId} {x : Operand} {b n : Nat} {cs : List Value} (hc : w.rangeAt b n cs) (h : Is o (some i) (.load t x)) (hx : opv L x = some (.pointer (some ⟨b, n, none⟩))) (ht : rowT P t = true) (hz : (P.info? t).map (·.size) = some cs.length) (hi : Nat.blt i N = true) (K : ∀ a', Fm N ((i, .agg cs.toArray) :: L) a' → wpList P ops Q rest a' w) : wpList P ops Q (o :: rest) a w := by
  obtain ⟨d, hu, hd⟩ := rowT_out ht
  exact ol_row h.2.2 h.2.1 (F.ev hx) hc hu hd hz (by rw [h.1]; exact K _ (F.put hi))
end
def opn : List (Key × Int × Int) := [([111, 114], 6, 1), ([97, 110, 100], 7, 2), ([61, 61], 9, 4), ([33, 61], 10, 4), ([60], 11, 4), ([60, 61], 12, 4), ([62], 13, 4), ([62, 61], 14, 4), ([43], 15, 5), ([45], 16, 5), ([42], 17, 6), ([47], 18, 6), ([37], 19, 6)]
def opF (p : Key × Int × Int) : List Fld := [.s p.1, .i p.2.1, .i p.2.2]
def opsF : List (List Fld) := opn.map opF
theorem opsF_len : ∀ d ∈ opsF, d.length = 3 := fun d hd => by
  obtain ⟨p, _, rfl⟩ := List.mem_map.1 hd
  rfl
theorem opn_ok : ∀ p ∈ opn, (0 ≤ p.2.1 ∧ p.2.1 ≤ 26) ∧ (0 ≤ p.2.2 ∧ p.2.2 ≤ 6) := by decide
/-- The operator of two that stands there. -/
def hereI : List (Key × Int × Int) → ES → Key × Int × Int
  | [], _ => ([], 0, 0)
  | p :: r, S => bif stands p.1 S then p else hereI r S
theorem here_at {k : Nat} {p : Key × Int × Int} {S : ES} (h : opn[k]? = some p) : hereI (opn.drop k) S = bif stands p.1 S then p else hereI (opn.drop (k + 1)) S := by
  obtain ⟨h1, h2⟩ := List.getElem?_eq_some_iff.1 h
  rw [List.drop_eq_getElem_cons h1, h2]
  rfl
set_option maxRecDepth 8000 in
set_option maxHeartbeats 3200000 in
theorem rops_m (text : Key) (c : C4) (b : Nat) (S : ES) : Meth Tryd.prog (PdX text c b) (fun k => k = b) 86 [] S fun v fs S' => S = S' ∧ ∃ x, v = .slice (some ⟨x, 0, none⟩) 13 13 ∧ fs = [.l (some ⟨x, 0, none⟩) 13 opsF] := by
  refine ⟨by kernel_rfl, fun wO R _ => ?_⟩
  have M := pd_begin R
  refine sw_fn Tryd.func86 rfl 15 Tryd.ntmps86 rfl fun A F => ?_
  refine sw_seq ?_
  refine sw_reg ?_
  refine sw_asg F ⟨rfl, rfl, rfl⟩ rfl rfl fun A F => ?_
  refine sw_end ?_
  show Code.wp _ _ _ _ _
  refine sw_seq ?_
  refine sw_reg ?_
  refine sw_build F _ [.string (str [111, 114]), .int .i64 6, .int .i64 1] ⟨rfl, rfl, rfl⟩ rfl (by kernel_rfl) rfl fun A F => ?_
  refine sw_build F _ [.string (str [97, 110, 100]), .int .i64 7, .int .i64 2] ⟨rfl, rfl, rfl⟩ rfl (by kernel_rfl) rfl fun A F => ?_
  refine sw_build F _ [.string (str [61, 61]), .int .i64 9, .int .i64 4] ⟨rfl, rfl, rfl⟩ rfl (by kernel_rfl) rfl fun A F => ?_
  refine sw_build F _ [.string (str [33, 61]), .int .i64 10, .int .i64 4] ⟨rfl, rfl, rfl⟩ rfl (by kernel_rfl) rfl fun A F => ?_
  refine sw_build F _ [.string (str [60]), .int .i64 11, .int .i64 4] ⟨rfl, rfl, rfl⟩ rfl (by kernel_rfl) rfl fun A F => ?_
  refine sw_build F _ [.string (str [60, 61]), .int .i64 12, .int .i64 4] ⟨rfl, rfl, rfl⟩ rfl (by kernel_rfl) rfl fun A F => ?_
  refine sw_build F _ [.string (str [62]), .int .i64 13, .int .i64 4] ⟨rfl, rfl, rfl⟩ rfl (by kernel_rfl) rfl fun A F => ?_
  refine sw_build F _ [.string (str [62, 61]), .int .i64 14, .int .i64 4] ⟨rfl, rfl, rfl⟩ rfl (by kernel_rfl) rfl fun A F => ?_
  refine sw_build F _ [.string (str [43]), .int .i64 15, .int .i64 5] ⟨rfl, rfl, rfl⟩ rfl (by kernel_rfl) rfl fun A F => ?_
  refine sw_build F _ [.string (str [45]), .int .i64 16, .int .i64 5] ⟨rfl, rfl, rfl⟩ rfl (by kernel_rfl) rfl fun A F => ?_
  refine sw_build F _ [.string (str [42]), .int .i64 17, .int .i64 6] ⟨rfl, rfl, rfl⟩ rfl (by kernel_rfl) rfl fun A F => ?_
  refine sw_build F _ [.string (str [47]), .int .i64 18, .int .i64 6] ⟨rfl, rfl, rfl⟩ rfl (by kernel_rfl) rfl fun A F => ?_
  refine sw_build F _ [.string (str [37]), .int .i64 19, .int .i64 6] ⟨rfl, rfl, rfl⟩ rfl (by kernel_rfl) rfl fun A F => ?_
  refine sw_mkrow (ety := 93) (sz := 3) (z := .agg #[.string ⟨#[]⟩, .int .i64 0, .int .i64 0]) F M _ opsF ⟨rfl, rfl, rfl⟩ rfl (by kernel_rfl) (by kernel_rfl) rfl (by kernel_rfl) rfl ?_ ?_ rfl fun x1 A w F M => ?_
  · intro g hg
    obtain ⟨p, hp, rfl⟩ := List.mem_map.1 hg
    have q := opn_ok p hp
    exact ⟨rfl, lie_cons trivial (lie_cons ⟨by omega, by omega⟩ (lie_cons ⟨by omega, by omega⟩ (lie_nil _ _)))⟩
  · intro i f b hf hm g hg
    obtain ⟨p, _, rfl⟩ := List.mem_map.1 hg
    intro y hy
    rcases List.mem_cons.1 hy with rfl | hy
    · trivial
    rcases List.mem_cons.1 hy with rfl | hy
    · trivial
    rw [List.mem_singleton.1 hy]
    trivial
  refine sw_asg F ⟨rfl, rfl, rfl⟩ rfl rfl fun A F => ?_
  refine sw_end ?_
  show Code.wp _ _ _ _ _
  refine wp_ret ?_
  repeat (first | refine then_ret ?_ | refine block_ret ?_)
  exact sw_rettmp F Tryd.results86 rfl ⟨_, [.l (some ⟨x1, 0, none⟩) 13 opsF], S, rfl, M.but, M.st, lie_cons (M.mem.rowlie 0 rfl) (lie_nil _ _), rfl, x1, rfl, rfl⟩
set_option maxRecDepth 8000 in
set_option maxHeartbeats 3200000 in
theorem rhere_m (text : Key) (c : C4) (b : Nat) (S : ES) : Meth Tryd.prog (PdX text c b) (fun k => k = b) 78 [ptr b] S fun v fs S' => S = S' ∧ v = .agg #[.string (str (hereI opn S).1), .int .i64 (hereI opn S).2.1, .int .i64 (hereI opn S).2.2] := by
  refine ⟨by kernel_rfl, fun wO R _ => ?_⟩
  have M := pd_begin R
  refine sw_fn Tryd.func78 rfl 26 Tryd.ntmps78 rfl fun A F => ?_
  refine sw_seq ?_
  refine sw_reg ?_
  refine sw_alloc F M [.string ⟨#[]⟩, .int .i64 0, .int .i64 0] ⟨rfl, rfl, rfl⟩ (by kernel_rfl) rfl fun r A w F M => ?_
  refine sw_end ?_
  show Code.wp _ _ _ _ _
  refine sw_seq ?_
  refine sw_reg ?_
  refine sw_call (rops_m text c b S) F M ⟨rfl, rfl, rfl⟩ rfl rfl ?_
  rintro _ _ _ A w ⟨rfl, x, rfl, rfl⟩ F M
  refine sw_asg F ⟨rfl, rfl, rfl⟩ rfl rfl fun A F => ?_
  refine sw_end ?_
  show Code.wp _ _ _ _ _
  refine sw_seq ?_
  refine sw_seq ?_
  refine sw_reg ?_
  refine sw_asg F ⟨rfl, rfl, rfl⟩ rfl rfl fun A F => ?_
  refine sw_end ?_
  show Code.wp _ _ _ _ _
  refine wp_block ?_
  refine wp_loop (fun A w => ∃ k : Nat, k ≤ 13 ∧ Fm 26 [(4, .int .i64 k), (3, .slice (some ⟨x, 0, none⟩) 13 13), (2, ptr r), (0, ptr b)] A ∧ Mm (PdX text c b) (fun k => k = b) wO [.val [.l (some ⟨x, 0, none⟩) 13 opsF], .box r [.string ⟨#[]⟩, .int .i64 0, .int .i64 0] 93] S w ∧ hereI opn S = hereI (opn.drop k) S) (fun A _ => 13 - (intOf (A.eval (.tmp 4))).toNat) ?_ ?_
  · exact ⟨0, by omega, F.keep [4, 3, 2, 0] rfl, M, rfl⟩
  rintro A w ⟨k, hk, F, M, hpk⟩
  have hA : A.eval (.tmp 4) = .int .i64 (k : Int) := F.2.2 4 _ rfl
  refine sw_seq ?_
  refine sw_seq ?_
  refine sw_reg ?_
  refine sw_move F ⟨rfl, rfl, rfl⟩ rfl rfl fun A F => ?_
  refine sw_move F ⟨rfl, rfl, rfl⟩ rfl rfl fun A F => ?_
  refine sw_len F ⟨rfl, rfl, rfl⟩ rfl Tryd.underlying98 rfl fun A F => ?_
  refine sw_lss F ⟨rfl, rfl, rfl⟩ rfl rfl rfl fun A F => ?_
  refine sw_end ?_
  show Code.wp _ _ _ _ _
  refine sw_cond F rfl (fun hc1 => ?_) (fun hc1 => ?_)
  · skip
    have hk3 : k < 13 := by have := of_decide_eq_true hc1; omega
    obtain ⟨p, hget⟩ : ∃ p, opn[k]? = some p := ⟨_, List.getElem?_eq_getElem (by have : opn.length = 13 := rfl; omega)⟩
    have hrg := lie_range 3 (M.mem.vallie 0 rfl) opsF_len (k := k) (d := opF p) (by rw [opsF, List.getElem?_map, hget]; rfl)
    refine wp_skip ?_
    show Code.wp _ _ _ _ _
    refine sw_seq ?_
    refine wp_block ?_
    refine sw_seq ?_
    refine sw_reg ?_
    refine sw_move F ⟨rfl, rfl, rfl⟩ rfl rfl fun A F => ?_
    refine sw_move F ⟨rfl, rfl, rfl⟩ rfl rfl fun A F => ?_
    refine sw_move F ⟨rfl, rfl, rfl⟩ rfl rfl fun A F => ?_
    refine sw_at F 3 ⟨rfl, rfl, rfl⟩ rfl rfl hk3 Tryd.underlying98 (by kernel_rfl) rfl fun A F => ?_
    refine sw_fld F 0 ⟨rfl, rfl, rfl⟩ rfl (by kernel_rfl) rfl rfl fun A F => ?_
    refine sw_ext F ((hrg 0 _ rfl)) ⟨rfl, rfl, rfl⟩ rfl (by kernel_rfl) rfl fun A F => ?_
    refine sw_call0 (ris_m p.1 text c b S) F M ⟨rfl, rfl, rfl⟩ rfl rfl ?_
    rintro _ _ A w ⟨_, rfl, rfl⟩ F M
    refine sw_asg F ⟨rfl, rfl, rfl⟩ rfl rfl fun A F => ?_
    refine sw_end ?_
    show Code.wp _ _ _ _ _
    refine sw_seq ?_
    refine sw_reg ?_
    refine sw_move F ⟨rfl, rfl, rfl⟩ rfl rfl fun A F => ?_
    refine sw_end ?_
    show Code.wp _ _ _ _ _
    refine sw_cond F rfl (fun hc2 => ?_) (fun hc2 => ?_)
    · skip
      have hst := hc2
      have hrg := lie_range 3 (M.mem.vallie 0 rfl) opsF_len (k := k) (d := opF p) (by rw [opsF, List.getElem?_map, hget]; rfl)
      refine sw_seq ?_
      refine sw_reg ?_
      refine sw_move F ⟨rfl, rfl, rfl⟩ rfl rfl fun A F => ?_
      refine sw_move F ⟨rfl, rfl, rfl⟩ rfl rfl fun A F => ?_
      refine sw_at F 3 ⟨rfl, rfl, rfl⟩ rfl rfl hk3 Tryd.underlying98 (by kernel_rfl) rfl fun A F => ?_
      refine sw_rng F hrg ⟨rfl, rfl, rfl⟩ rfl (by kernel_rfl) (by kernel_rfl) rfl fun A F => ?_
      refine sw_setAll F M 1 ⟨rfl, rfl, rfl⟩ rfl rfl rfl (by kernel_rfl) rfl rfl fun w M => ?_
      refine sw_end ?_
      show Code.wp _ _ _ _ _
      refine wp_ret ?_
      repeat (first | refine then_ret ?_ | refine block_ret ?_)
      exact sw_retbox F M 1 Tryd.results78 rfl rfl (by kernel_rfl) (by kernel_rfl) ⟨_, [], S, rfl, M.but, M.st, lie_nil _ _, rfl, by rw [hpk, here_at hget, hst, cond_true]; rfl⟩
    · skip
      have hst := hc2
      refine wp_skip ?_
      show Code.wp _ _ _ _ _
      refine sw_reg ?_
      refine sw_move F ⟨rfl, rfl, rfl⟩ rfl rfl fun A F => ?_
      refine sw_add F ⟨rfl, rfl, rfl⟩ rfl rfl (by omega) rfl fun A F => ?_
      refine sw_asg F ⟨rfl, rfl, rfl⟩ rfl rfl fun A F => ?_
      refine sw_end ?_
      show _ ∧ _
      refine ⟨⟨k + 1, by omega, F.keep [4, 3, 2, 0] rfl, M, by rw [hpk, here_at hget, hst, cond_false]⟩, ?_⟩
      rw [(F.keep [4, 3, 2, 0] rfl).2.2 4 (.int .i64 ((k + 1 : Nat) : Int)) rfl, hA]
      simp only [intOf]
      omega
  · skip
    have hk3 : k = 13 := by have := of_decide_eq_false hc1; omega
    refine wp_exit ?_
    repeat (first | refine then_exit ?_ | refine exit_block ?_ | refine exit_pass rfl ?_)
    show Code.wp _ _ _ _ _
    refine sw_seq ?_
    refine sw_reg ?_
    refine sw_build F _ [.string ⟨#[]⟩, .int .i64 0, .int .i64 0] ⟨rfl, rfl, rfl⟩ rfl (by kernel_rfl) rfl fun A F => ?_
    refine sw_setAll F M 1 ⟨rfl, rfl, rfl⟩ rfl rfl rfl (by kernel_rfl) rfl rfl fun w M => ?_
    refine sw_end ?_
    show Code.wp _ _ _ _ _
    refine wp_ret ?_
    repeat (first | refine then_ret ?_ | refine block_ret ?_)
    exact sw_retbox F M 1 Tryd.results78 rfl rfl (by kernel_rfl) (by kernel_rfl) ⟨_, [], S, rfl, M.but, M.st, lie_nil _ _, rfl, by rw [hpk, hk3]; rfl⟩
end Go.Proofs.YtgpjlocgkdlnlaaDoor
