import Derived.Test.YtemjajljpoaioaaDoorYT7
namespace Go.Proofs.YtemjajljpoaioaaDoor
open Go.RowKit
set_option linter.unusedVariables false
set_option linter.unusedSimpArgs false
set_option maxRecDepth 20000
set_option maxHeartbeats 8000000
theorem Mem.turn {base : Nat} {A B C : List Ent} {w : World} (M : Mem base (A ++ (B ++ C)) w) : Mem base (B ++ (A ++ C)) w := by
 have at_ : ∀ (i : Nat) (e : Ent), (B ++ (A ++ C))[i]? = some e → (A ++ (B ++ C))[if i < B.length then A.length + i else if i < B.length + A.length then i - B.length else i]? = some e := fun i e hi => by
  by_cases h1 : i < B.length
  ·rw [if_pos h1, List.getElem?_append_right (by omega), List.getElem?_append_left (by omega), Nat.add_sub_cancel_left]
   rw [List.getElem?_append_left h1] at hi
   exact hi
  ·rw [if_neg h1]
   rw [List.getElem?_append_right (by omega)] at hi
   by_cases h2 : i < B.length + A.length
   ·rw [if_pos h2, List.getElem?_append_left (by omega)]
    rw [List.getElem?_append_left (by omega)] at hi
    exact hi
   ·rw [if_neg h2, List.getElem?_append_right (by omega), List.getElem?_append_right (by omega)]
    rw [List.getElem?_append_right (by omega)] at hi
    rw [show i - A.length - B.length = i - B.length - A.length by omega]
    exact hi
 refine ⟨M.le, fun i e hi => M.at_ _ e (at_ i e hi), fun i j e f b hij hi hj hm => M.sep _ _ e f b ?_ (at_ i e hi) (at_ j f hj) hm⟩
 split <;> split <;> (try split) <;> (try split) <;> omega
theorem Mm.turn {w0 w : World} {A B C : List Ent} (M : Mm (Bx w0) (fun _ => False) w0 (A ++ (B ++ C)) () w) : Mm (Bx w0) (fun _ => False) w0 (B ++ (A ++ C)) () w := M.own (Below.refl _ _) M.mem.turn
theorem sw_callP {ops : Array Oper} {Q : Exit → Act → World → Prop} {a : Act} {w w0 : World} {rest : List Oper} {o : Oper} {N : Nat} {L : List (Nat × Value)} {f : FuncId} {vs : List Value} {E1 E : List Ent} {Post : Value → List Ent → Prop} (E0 : List Ent) (hM : MethE f vs E1 Post) (F : Fm N L a) (M : Mm (Bx w0) (fun _ => False) w0 (E0 ++ (E1 ++ E)) () w) {i : Nat} {xs : Array Operand} {ts : Array TypeId} (h : Is o (some i) (.call { callee := .value (.func f), args := xs, argTypes := ts })) (hv : opvs L xs.toList = some vs) (hi : Nat.blt i N = true)
  (K : ∀ v E2 a' w', Post v E2 → Fm N ((i, v) :: L) a' → Mm (Bx w0) (fun _ => False) w0 (E0 ++ (E2 ++ E)) () w' → wpList Tryd.prog ops Q rest a' w') : wpList Tryd.prog ops Q (o :: rest) a w :=
 sw_callE hM F M.turn h hv hi fun v E2 a' w' hp F' M' => K v E2 a' w' hp F' M'.turn
section
variable {P : Program} {ops : Array Oper} {Q : Exit → Act → World → Prop} {a : Act} {w : World} {rest : List Oper} {o : Oper} {N : Nat} {L : List (Nat × Value)} {i t u : Nat} {x y : Operand}
theorem sw_eqlb {b c : Bool} (hu : P.underlying t = some .bool) (F : Fm N L a) (h : Is o (some i) (.binOp .eql t x y u)) (h1 : opv L x = some (.bool b)) (h2 : opv L y = some (.bool c)) (hi : Nat.blt i N = true) (K : ∀ a', Fm N ((i, .bool (b == c)) :: L) a' → wpList P ops Q rest a' w) : wpList P ops Q (o :: rest) a w :=
 sw_val F h.1 h.2.2 hi (by
  have n : (binOp .eql t (.bool b) (.bool c)).run P w = .ok (.bool (b == c)) w := by simp [go_sem, hu]
  unfold execOp; rw [h.2.1]; simp [F.ev h1, F.ev h2, eqGuard]; rw [n]; rfl) K
end
structure Flg (w : World) (y m : Nat) (fl : List Bool) : Prop where
 lt : y < w.heap.size
 at_ : ∀ (j : Nat) (z : Bool), fl[j]? = some z → w.cell? ⟨y, m + j * 1, none⟩ = some (.bool z)
theorem Flg.bx {w w' : World} {y m : Nat} {fl : List Bool} (h : Flg w y m fl) (hb : Bx w () w') : Flg w' y m fl :=
 ⟨Nat.lt_of_lt_of_le h.lt hb.size, fun j z hz => by rw [hb.cell (p := ⟨y, _, none⟩) h.lt]; exact h.at_ j z hz⟩
set_option maxRecDepth 20000 in
set_option maxHeartbeats 8000000 in
theorem tix_m {w0 : World} {y m lc : Nat} {fl : List Bool} (HF : Flg w0 y m fl) (hl : fl.length ≤ 100000) : Calls Tryd.prog 52 ([.slice (some ⟨y, m, none⟩) fl.length lc, .bool true] : List Value).toArray w0 fun e w' => (∃ r : Int, e = .returned (.int .i64 r) ∧ (0 ≤ r → fl.contains true = true) ∧ (fl.contains true = true → 0 ≤ r) ∧ -1 ≤ r) ∧ Below w0.heap.size w0 w' := by
 have M := bx_begin (w0 := w0) (w := w0) (Below.refl _ _)
 refine sw_fn Tryd.func52 rfl 19 Tryd.ntmps52 rfl fun A F => ?_
 refine sw_seq ?_
 refine sw_reg ?_
 refine sw_asg F ⟨rfl, rfl, rfl⟩ rfl rfl fun A F => ?_
 refine sw_end ?_
 show Code.wp _ _ _ _ _
 refine sw_seq ?_
 refine sw_seq ?_
 refine sw_reg ?_
 refine sw_move F ⟨rfl, rfl, rfl⟩ rfl rfl fun A F => ?_
 refine sw_len F ⟨rfl, rfl, rfl⟩ rfl Tryd.underlying47 rfl fun A F => ?_
 refine sw_move F ⟨rfl, rfl, rfl⟩ rfl rfl fun A F => ?_
 refine sw_end ?_
 show Code.wp _ _ _ _ _
 refine wp_block ?_
 refine wp_loop (fun A w => ∃ c : Nat, (c ≤ fl.length) ∧ (∀ q : Nat, q < c → fl[q]? ≠ some true) ∧ Fm 19 [(0, .slice (some ⟨y, m, none⟩) fl.length lc), (1, .bool true), (7, .int .i64 ((fl.length : Nat) : Int)), (8, .int .i64 ((c : Nat) : Int))] A ∧ Mm (Bx w0) (fun _ => False) w0 [] () w) (fun A _ => fl.length - (intOf (A.eval (.tmp 8))).toNat) ?_ ?_
 ·exact ⟨0, (Nat.zero_le _), (fun q hq => by omega), F.keep [0, 1, 7, 8] rfl, M⟩
 repeat clear F
 repeat clear M
 rintro A w ⟨c, hc, hno, F, M⟩
 have hA8 : A.eval (.tmp 8) = .int .i64 ((c : Nat) : Int) := F.2.2 8 _ rfl
 refine sw_seq ?_
 refine sw_reg ?_
 refine sw_lss F ⟨rfl, rfl, rfl⟩ rfl rfl rfl fun A F => ?_
 refine sw_end ?_
 show Code.wp _ _ _ _ _
 refine sw_seq ?_
 refine sw_cond F rfl (fun hc1 => ?_) (fun hc1 => ?_)
 ·skip
  have hcl : c < fl.length := by have := of_decide_eq_true hc1; omega
  refine wp_skip ?_
  show Code.wp _ _ _ _ _
  refine sw_seq ?_
  refine wp_block ?_
  refine sw_seq ?_
  refine sw_reg ?_
  refine sw_move F ⟨rfl, rfl, rfl⟩ rfl rfl fun A F => ?_
  refine sw_asg F ⟨rfl, rfl, rfl⟩ rfl rfl fun A F => ?_
  refine sw_end ?_
  show Code.wp _ _ _ _ _
  refine sw_seq ?_
  refine sw_reg ?_
  refine sw_move F ⟨rfl, rfl, rfl⟩ rfl rfl fun A F => ?_
  refine sw_move F ⟨rfl, rfl, rfl⟩ rfl rfl fun A F => ?_
  refine sw_move F ⟨rfl, rfl, rfl⟩ rfl rfl fun A F => ?_
  refine sw_at F 1 ⟨rfl, rfl, rfl⟩ rfl rfl (hcl) Tryd.underlying47 (by kernel_rfl) rfl fun A F => ?_
  obtain ⟨z, hz⟩ : ∃ z, fl[c]? = some z := ⟨_, List.getElem?_eq_getElem hcl⟩
  refine sw_ext F ((HF.bx M.st).at_ _ _ hz) ⟨rfl, rfl, rfl⟩ rfl (by kernel_rfl) rfl fun A F => ?_
  refine sw_eqlb Tryd.underlying4 F ⟨rfl, rfl, rfl⟩ rfl rfl rfl fun A F => ?_
  refine sw_end ?_
  show Code.wp _ _ _ _ _
  refine sw_cond F rfl (fun hc2 => ?_) (fun hc2 => ?_)
  ·skip
   have hzt : z = true := by simpa using hc2
   refine sw_seq ?_
   refine sw_reg ?_
   refine sw_move F ⟨rfl, rfl, rfl⟩ rfl rfl fun A F => ?_
   refine sw_asg F ⟨rfl, rfl, rfl⟩ rfl rfl fun A F => ?_
   refine sw_end ?_
   show Code.wp _ _ _ _ _
   refine wp_ret ?_
   repeat (first | refine then_ret ?_ | refine block_ret ?_)
   refine sw_rettmp F Tryd.results52 rfl ⟨⟨_, rfl, fun _ => ?_, fun _ => by omega, by omega⟩, M.st⟩
   rw [hzt] at hz
   exact List.elem_iff.2 (List.mem_of_getElem? hz)
  ·skip
   have hzt : z = false := by simpa using hc2
   refine wp_skip ?_
   show Code.wp _ _ _ _ _
   refine sw_reg ?_
   refine sw_add F ⟨rfl, rfl, rfl⟩ rfl rfl (by omega) rfl fun A F => ?_
   refine sw_move F ⟨rfl, rfl, rfl⟩ rfl rfl fun A F => ?_
   refine sw_end ?_
   subst hzt
   show _ ∧ _
   refine ⟨⟨c + 1, by omega, fun q hq => ?_, F.keep [0, 1, 7, 8] rfl, M⟩, ?_⟩
   ·by_cases e : q = c
    ·subst e; rw [hz]; simp
    ·exact hno q (by omega)
   rw [(F.keep (N := 19) (L' := [(8, .int .i64 ((c + 1 : Nat) : Int))]) [8] rfl).2.2 8 (.int .i64 ((c + 1 : Nat) : Int)) rfl, hA8]
   simp only [intOf]
   omega
 ·skip
  have hce : c = fl.length := by have := of_decide_eq_false hc1; omega
  refine wp_exit ?_
  repeat (first | refine then_exit ?_ | refine exit_block ?_ | refine exit_pass rfl ?_)
  show Code.wp _ _ _ _ _
  refine sw_seq ?_
  refine sw_reg ?_
  refine sw_asg F ⟨rfl, rfl, rfl⟩ rfl rfl fun A F => ?_
  refine sw_end ?_
  show Code.wp _ _ _ _ _
  refine wp_ret ?_
  repeat (first | refine then_ret ?_ | refine block_ret ?_)
  refine sw_rettmp F Tryd.results52 rfl ⟨⟨_, rfl, fun h => absurd h (by decide), fun h => ?_, by decide⟩, M.st⟩
  obtain ⟨j, hj⟩ := List.mem_iff_getElem?.1 (List.elem_iff.1 h)
  exact absurd hj (hno j (by have := (List.getElem?_eq_some_iff.1 hj).1; omega))
set_option maxRecDepth 20000 in
set_option maxHeartbeats 8000000 in
theorem tco_m {w0 : World} {y m lc : Nat} {fl : List Bool} (HF : Flg w0 y m fl) (hl : fl.length ≤ 100000) : Calls Tryd.prog 50 ([.slice (some ⟨y, m, none⟩) fl.length lc, .bool true] : List Value).toArray w0 fun e w' => e = .returned (.bool (fl.contains true)) ∧ Below w0.heap.size w0 w' := by
 have M := bx_begin (w0 := w0) (w := w0) (Below.refl _ _)
 refine sw_fn Tryd.func50 rfl 9 Tryd.ntmps50 rfl fun A F => ?_
 refine sw_seq ?_
 refine sw_reg ?_
 refine sw_asg F ⟨rfl, rfl, rfl⟩ rfl rfl fun A F => ?_
 refine sw_end ?_
 show Code.wp _ _ _ _ _
 refine sw_seq ?_
 refine sw_reg ?_
 refine sw_move F ⟨rfl, rfl, rfl⟩ rfl rfl fun A F => ?_
 refine sw_move F ⟨rfl, rfl, rfl⟩ rfl rfl fun A F => ?_
 refine sw_callR (by kernel_rfl) (tix_m (lc := lc) (HF.bx M.st) hl) F ⟨rfl, rfl, rfl⟩ rfl rfl ?_
 rintro _ w ⟨⟨r, rfl, h1, h2, _⟩, hb⟩
 refine ⟨_, rfl, fun A F => ?_⟩
 replace M := M.aft hb
 clear hb
 refine sw_geq F ⟨rfl, rfl, rfl⟩ rfl rfl rfl fun A F => ?_
 refine sw_asg F ⟨rfl, rfl, rfl⟩ rfl rfl fun A F => ?_
 refine sw_end ?_
 show Code.wp _ _ _ _ _
 refine wp_ret ?_
 repeat (first | refine then_ret ?_ | refine block_ret ?_)
 refine sw_rettmp F Tryd.results50 rfl ⟨?_, M.st⟩
 cases hcc : fl.contains true with
 | true => rw [decide_eq_true (h2 hcc)]
 | false => rw [decide_eq_false (fun q => by rw [h1 q] at hcc; cases hcc)]
end Go.Proofs.YtemjajljpoaioaaDoor
