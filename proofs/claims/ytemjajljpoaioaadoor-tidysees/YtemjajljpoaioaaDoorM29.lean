import Derived.Test.YtemjajljpoaioaaDoorM28
import Derived.LoopN
namespace Go.Proofs.YtemjajljpoaioaaDoor
open Go.RowKit
set_option linter.unusedVariables false
set_option linter.unusedSimpArgs false
set_option maxRecDepth 20000
set_option maxHeartbeats 8000000
set_option maxRecDepth 20000 in
set_option maxHeartbeats 8000000 in
theorem tmove_m {xl cl pb : Nat} {ys : List Ins} {zs : List Value} {pl : List Nat} (ok : RxOk 3 cl (ys.map Ins.flds) zs) (hlen : ys.length ≤ 2048) (hL : ∀ i ∈ ys, isJ i = true → 0 ≤ i.a ∧ i.a.toNat < pl.length) : MethE 30 [.slice (some ⟨xl, 0, none⟩) ys.length cl, .slice (some ⟨pb, 0, none⟩) pl.length pl.length] [.box xl (flatV (ys.map Ins.flds) ++ zs) 31, .box pb (nats pl) 3] fun v E2 => v = .tuple #[] ∧ E2 = [.box xl (flatV ((ys.map (mv (fun k => pl.getD k 0))).map Ins.flds) ++ zs) 31, .box pb (nats pl) 3] := by
 refine ⟨by kernel_rfl, fun w0 E w M => ?_⟩
 simp only [List.cons_append, List.nil_append] at M
 refine sw_fn Tryd.func30 rfl 25 Tryd.ntmps30 rfl fun A F => ?_
 refine sw_seq ?_
 refine sw_reg ?_
 refine sw_move F ⟨rfl, rfl, rfl⟩ rfl rfl fun A F => ?_
 refine sw_len F ⟨rfl, rfl, rfl⟩ rfl Tryd.underlying32 rfl fun A F => ?_
 refine sw_move F ⟨rfl, rfl, rfl⟩ rfl rfl fun A F => ?_
 refine sw_end ?_
 show Code.wp _ _ _ _ _
 refine wp_block ?_
 rw [← upd_zero (fun _ => mv (fun k => pl.getD k 0)) ys] at M
 refine wp_loop (fun A w => ∃ c : Nat, (c ≤ ys.length) ∧ Fm 25 [(0, .slice (some ⟨xl, 0, none⟩) ys.length cl), (1, .slice (some ⟨pb, 0, none⟩) pl.length pl.length), (6, .slice (some ⟨xl, 0, none⟩) ys.length cl), (7, .int .i64 ((ys.length : Nat) : Int)), (8, .int .i64 ((c : Nat) : Int))] A ∧ Mm (Bx w0) (fun _ => False) w0 ([.box xl (flatV (((ys.mapIdx (fun _ => mv (fun k => pl.getD k 0))).take c ++ ys.drop c).map Ins.flds) ++ zs) 31, .box pb (nats pl) 3] ++ E) () w) (fun A _ => ys.length - (intOf (A.eval (.tmp 8))).toNat) ?_ ?_
 ·exact ⟨0, (Nat.zero_le _), F.keep [0, 1, 6, 7, 8] rfl, M⟩
 repeat clear F
 repeat clear M
 rintro A w ⟨c, hc, F, M⟩
 have hA8 : A.eval (.tmp 8) = .int .i64 ((c : Nat) : Int) := F.2.2 8 _ rfl
 refine sw_seq ?_
 refine sw_reg ?_
 refine sw_lss F ⟨rfl, rfl, rfl⟩ rfl rfl rfl fun A F => ?_
 refine sw_end ?_
 show Code.wp _ _ _ _ _
 refine sw_seq ?_
 refine sw_cond F rfl (fun hc1 => ?_) (fun hc1 => ?_)
 ·skip
  have hcl : c < ys.length := by have := of_decide_eq_true hc1; omega
  refine wp_skip ?_
  show Code.wp _ _ _ _ _
  refine sw_seq ?_
  refine wp_block ?_
  refine sw_seq ?_
  refine sw_reg ?_
  refine sw_move F ⟨rfl, rfl, rfl⟩ rfl rfl fun A F => ?_
  refine sw_at F 3 ⟨rfl, rfl, rfl⟩ rfl rfl (hcl) Tryd.underlying32 (by kernel_rfl) rfl fun A F => ?_
  obtain ⟨i, hi⟩ : ∃ i, ys[c]? = some i := ⟨_, List.getElem?_eq_getElem hcl⟩
  refine sw_rng F (cs := [.int .i64 i.op, .int .i64 i.a, .int .i64 i.b]) (M.insat 0 (rx_len ok (upd_len _ _ hc)) rfl (upd_get hi)) ⟨rfl, rfl, rfl⟩ rfl (by kernel_rfl) (by kernel_rfl) rfl fun A F => ?_
  refine sw_alloc F M [.int .i64 0, .int .i64 0, .int .i64 0] ⟨rfl, rfl, rfl⟩ (by kernel_rfl) rfl fun x2 A w F M => ?_
  refine sw_asg F ⟨rfl, rfl, rfl⟩ rfl rfl fun A F => ?_
  refine sw_setAll F M 0 ⟨rfl, rfl, rfl⟩ rfl rfl rfl (by kernel_rfl) rfl rfl fun w M => ?_
  simp only [List.set_cons_zero, List.set_cons_succ] at M
  refine sw_end ?_
  show Code.wp _ _ _ _ _
  refine sw_seq ?_
  refine sw_reg ?_
  refine sw_all F M 0 ⟨rfl, rfl, rfl⟩ rfl rfl (by kernel_rfl) (by kernel_rfl) rfl fun A F => ?_
  refine sw_callR (by kernel_rfl) (tjump_any i w) F ⟨rfl, rfl, rfl⟩ rfl rfl ?_
  rintro _ w ⟨rfl, hb⟩
  refine ⟨_, rfl, fun A F => ?_⟩
  replace M := M.aft hb
  clear hb
  refine sw_end ?_
  show Code.wp _ _ _ _ _
  refine sw_cond F rfl (fun hc3 => ?_) (fun hc3 => ?_)
  ·skip
   have hj := hc3
   refine sw_reg ?_
   refine sw_move F ⟨rfl, rfl, rfl⟩ rfl rfl fun A F => ?_
   refine sw_move F ⟨rfl, rfl, rfl⟩ rfl rfl fun A F => ?_
   refine sw_move F ⟨rfl, rfl, rfl⟩ rfl rfl fun A F => ?_
   refine sw_fld F 1 ⟨rfl, rfl, rfl⟩ rfl (by kernel_rfl) rfl rfl fun A F => ?_
   refine sw_cell F M 0 ⟨rfl, rfl, rfl⟩ rfl rfl rfl (by kernel_rfl) rfl fun A F => ?_
   refine sw_atI F 1 ⟨rfl, rfl, rfl⟩ rfl rfl (hL i (List.mem_of_getElem? hi) hj) Tryd.underlying37 (by kernel_rfl) rfl fun A F => ?_
   obtain ⟨z, hz⟩ : ∃ z, pl[i.a.toNat]? = some z := ⟨_, List.getElem?_eq_getElem (hL i (List.mem_of_getElem? hi) hj).2⟩
   refine sw_iget F M 2 ⟨rfl, rfl, rfl⟩ rfl rfl (by rw [Nat.zero_add, Nat.mul_one]; exact hz) (by kernel_rfl) rfl fun A F => ?_
   refine sw_at F 3 ⟨rfl, rfl, rfl⟩ rfl rfl (hcl) Tryd.underlying32 (by kernel_rfl) rfl fun A F => ?_
   refine sw_fld F 1 ⟨rfl, rfl, rfl⟩ rfl (by kernel_rfl) rfl rfl fun A F => ?_
   refine sw_setA F M 1 (rx_len ok (upd_len _ _ hc)) ⟨rfl, rfl, rfl⟩ rfl rfl rfl (upd_get hi) (by kernel_rfl) fun w M => ?_
   simp only [List.set_cons_zero, List.set_cons_succ] at M
   refine sw_end ?_
   show Code.wp _ _ _ _ _
   refine sw_reg ?_
   refine sw_add F ⟨rfl, rfl, rfl⟩ rfl rfl (by omega) rfl fun A F => ?_
   refine sw_move F ⟨rfl, rfl, rfl⟩ rfl rfl fun A F => ?_
   refine sw_end ?_
   replace M := M.drop 0 rfl
   rw [show (⟨i.op, ((z : Nat) : Int), i.b⟩ : Ins) = (fun _ => mv (fun k => pl.getD k 0)) c i by show _ = mv _ i; rw [mv_J hj, List.getD_eq_getElem?_getD, hz]; rfl, upd_step (f := fun _ => mv (fun k => pl.getD k 0)) hi] at M
   show _ ∧ _
   refine ⟨⟨c + 1, by omega, F.keep [0, 1, 6, 7, 8] rfl, M⟩, ?_⟩
   rw [(F.keep (N := 25) (L' := [(8, .int .i64 ((c + 1 : Nat) : Int))]) [8] rfl).2.2 8 (.int .i64 ((c + 1 : Nat) : Int)) rfl, hA8]
   simp only [intOf]
   omega
  ·skip
   have hj := hc3
   refine wp_skip ?_
   show Code.wp _ _ _ _ _
   refine sw_reg ?_
   refine sw_add F ⟨rfl, rfl, rfl⟩ rfl rfl (by omega) rfl fun A F => ?_
   refine sw_move F ⟨rfl, rfl, rfl⟩ rfl rfl fun A F => ?_
   refine sw_end ?_
   replace M := M.drop 0 rfl
   rw [upd_keep (f := fun _ => mv (fun k => pl.getD k 0)) hi (mv_no (by rw [hj]; decide))] at M
   show _ ∧ _
   refine ⟨⟨c + 1, by omega, F.keep [0, 1, 6, 7, 8] rfl, M⟩, ?_⟩
   rw [(F.keep (N := 25) (L' := [(8, .int .i64 ((c + 1 : Nat) : Int))]) [8] rfl).2.2 8 (.int .i64 ((c + 1 : Nat) : Int)) rfl, hA8]
   simp only [intOf]
   omega
 ·skip
  have hce : c = ys.length := by have := of_decide_eq_false hc1; omega
  refine wp_exit ?_
  repeat (first | refine then_exit ?_ | refine exit_block ?_ | refine exit_pass rfl ?_)
  rw [hce, upd_all, show ys.mapIdx (fun _ => mv (fun k => pl.getD k 0)) = ys.map (mv (fun k => pl.getD k 0)) by apply List.ext_getElem?; intro k; simp] at M
  exact sw_endnone F Tryd.results30 ⟨_, _, rfl, M, rfl, rfl⟩
theorem run_nI {a : Act} {w : World} {o : Oper} {x y : Operand} {u : TypeId} {i j : Ins} (h : o.op = .binOp .neq 31 x y u) (h1 : a.eval x = .agg #[.int .i64 i.op, .int .i64 i.a, .int .i64 i.b]) (h2 : a.eval y = .agg #[.int .i64 j.op, .int .i64 j.a, .int .i64 j.b]) : (execOp a.eval o).run Tryd.prog w = .ok (.value (.bool (!decide (i = j)))) w := by
 obtain ⟨i1, i2, i3⟩ := i
 obtain ⟨j1, j2, j3⟩ := j
 have g : (eqGuard .neq 31 x y (.agg #[.int .i64 i1, .int .i64 i2, .int .i64 i3]) (.agg #[.int .i64 j1, .int .i64 j2, .int .i64 j3])).run Tryd.prog w = .ok () w := by simp [go_sem]
 have n : (binOp .neq 31 (.agg #[.int .i64 i1, .int .i64 i2, .int .i64 i3]) (.agg #[.int .i64 j1, .int .i64 j2, .int .i64 j3])).run Tryd.prog w = .ok (.bool (!decide ((⟨i1, i2, i3⟩ : Ins) = ⟨j1, j2, j3⟩))) w := by
  by_cases c1 : i1 = j1 <;> by_cases c2 : i2 = j2 <;> by_cases c3 : i3 = j3 <;> simp [go_sem, c1, c2, c3]
 generalize (!decide ((⟨i1, i2, i3⟩ : Ins) = ⟨j1, j2, j3⟩)) = r at n ⊢
 unfold execOp; rw [h]; simp only [h1, h2, Sem.run_bind, g]; simp; rw [n]; rfl
set_option maxRecDepth 20000 in
set_option maxHeartbeats 8000000 in
theorem teq_m {w0 : World} {rb ro lc rc rp ld : Nat} {xs ys : List Ins} (HB : Body w0 rb ro xs) (HB2 : Body w0 rc rp ys) : Calls Tryd.prog 24 ([.slice (some ⟨rb, ro, none⟩) xs.length lc, .slice (some ⟨rc, rp, none⟩) ys.length ld] : List Value).toArray w0 fun e w' => e = .returned (.bool (decide (xs = ys))) ∧ Below w0.heap.size w0 w' := by
 have M := bx_begin (w0 := w0) (w := w0) (Below.refl _ _)
 refine sw_fn Tryd.func24 rfl 26 Tryd.ntmps24 rfl fun A F => ?_
 refine sw_seq ?_
 refine sw_reg ?_
 refine sw_asg F ⟨rfl, rfl, rfl⟩ rfl rfl fun A F => ?_
 refine sw_end ?_
 show Code.wp _ _ _ _ _
 refine sw_seq ?_
 refine sw_seq ?_
 refine sw_reg ?_
 refine sw_move F ⟨rfl, rfl, rfl⟩ rfl rfl fun A F => ?_
 refine sw_len F ⟨rfl, rfl, rfl⟩ rfl Tryd.underlying32 rfl fun A F => ?_
 refine sw_move F ⟨rfl, rfl, rfl⟩ rfl rfl fun A F => ?_
 refine sw_len F ⟨rfl, rfl, rfl⟩ rfl Tryd.underlying32 rfl fun A F => ?_
 refine sw_neq F ⟨rfl, rfl, rfl⟩ rfl rfl rfl fun A F => ?_
 refine sw_end ?_
 show Code.wp _ _ _ _ _
 refine sw_cond F rfl (fun hc1 => ?_) (fun hc1 => ?_)
 ·skip
  have hlen : xs.length ≠ ys.length := by have : ((xs.length : Int) != (ys.length : Int)) = true := hc1; simp at this; omega
  refine sw_seq ?_
  refine sw_reg ?_
  refine sw_asg F ⟨rfl, rfl, rfl⟩ rfl rfl fun A F => ?_
  refine sw_end ?_
  show Code.wp _ _ _ _ _
  refine wp_ret ?_
  repeat (first | refine then_ret ?_ | refine block_ret ?_)
  refine sw_rettmp F Tryd.results24 rfl ⟨?_, M.st⟩
  rw [show decide (xs = ys) = false from decide_eq_false fun q => hlen (by rw [q])]
 ·skip
  have hlen : xs.length = ys.length := by have : ((xs.length : Int) != (ys.length : Int)) = false := hc1; simp at this; omega
  refine wp_skip ?_
  show Code.wp _ _ _ _ _
  refine sw_seq ?_
  refine sw_seq ?_
  refine sw_reg ?_
  refine sw_move F ⟨rfl, rfl, rfl⟩ rfl rfl fun A F => ?_
  refine sw_len F ⟨rfl, rfl, rfl⟩ rfl Tryd.underlying32 rfl fun A F => ?_
  refine sw_move F ⟨rfl, rfl, rfl⟩ rfl rfl fun A F => ?_
  refine sw_end ?_
  show Code.wp _ _ _ _ _
  refine wp_block ?_
  refine wp_loop (fun A w => ∃ c : Nat, (c ≤ xs.length) ∧ (∀ q, q < c → xs[q]? = ys[q]?) ∧ Fm 26 [(0, .slice (some ⟨rb, ro, none⟩) xs.length lc), (1, .slice (some ⟨rc, rp, none⟩) ys.length ld), (12, .int .i64 ((xs.length : Nat) : Int)), (13, .int .i64 ((c : Nat) : Int))] A ∧ Mm (Bx w0) (fun _ => False) w0 [] () w) (fun A _ => xs.length - (intOf (A.eval (.tmp 13))).toNat) ?_ ?_
  ·exact ⟨0, (Nat.zero_le _), (fun q hq => by omega), F.keep [0, 1, 12, 13] rfl, M⟩
  repeat clear F
  repeat clear M
  rintro A w ⟨c, hc, heq, F, M⟩
  have hA13 : A.eval (.tmp 13) = .int .i64 ((c : Nat) : Int) := F.2.2 13 _ rfl
  refine sw_seq ?_
  refine sw_reg ?_
  refine sw_lss F ⟨rfl, rfl, rfl⟩ rfl rfl rfl fun A F => ?_
  refine sw_end ?_
  show Code.wp _ _ _ _ _
  refine sw_seq ?_
  refine sw_cond F rfl (fun hc2 => ?_) (fun hc2 => ?_)
  ·skip
   have hcl : c < xs.length := by have := of_decide_eq_true hc2; omega
   refine wp_skip ?_
   show Code.wp _ _ _ _ _
   refine sw_seq ?_
   refine wp_block ?_
   refine sw_seq ?_
   refine sw_reg ?_
   refine sw_move F ⟨rfl, rfl, rfl⟩ rfl rfl fun A F => ?_
   refine sw_asg F ⟨rfl, rfl, rfl⟩ rfl rfl fun A F => ?_
   refine sw_end ?_
   show Code.wp _ _ _ _ _
   refine sw_seq ?_
   obtain ⟨i, hi⟩ : ∃ i, xs[c]? = some i := ⟨_, List.getElem?_eq_getElem hcl⟩
   obtain ⟨j, hj⟩ : ∃ j, ys[c]? = some j := ⟨_, List.getElem?_eq_getElem (by omega)⟩
   refine wp_region_held (S := fun w' => Bx w0 () w') (by kernel_rfl) ?_
   show wpAnyH _ _ _ _ _ _ _ _ w.drew
   replace M := M.drew
   have hS : Bx w0 () w.drew := M.st
   refine sd_move F 0 rfl ⟨rfl, rfl, rfl⟩ rfl (by kernel_rfl) (by kernel_rfl) (by kernel_rfl) (fun _ _ _ h => h) rfl hS fun A F => ?_
   refine sd_move F 1 rfl ⟨rfl, rfl, rfl⟩ rfl (by kernel_rfl) (by kernel_rfl) (by kernel_rfl) (fun _ _ _ h => h) rfl hS fun A F => ?_
   refine sd_at F 2 3 rfl ⟨rfl, rfl, rfl⟩ rfl rfl hcl Tryd.underlying32 (by kernel_rfl) (by kernel_rfl) (by kernel_rfl) (by kernel_rfl) (fun _ _ _ h => h) rfl hS fun A F => ?_
   refine sd_rng F 3 (cs := [.int .i64 i.op, .int .i64 i.a, .int .i64 i.b]) rfl ⟨rfl, rfl, rfl⟩ rfl (by kernel_rfl) (by kernel_rfl) (fun w h => (HB.bx h).at_ _ _ hi) (by kernel_rfl) (by kernel_rfl) (by kernel_rfl) (fun _ _ _ h => h) rfl hS fun A F => ?_
   refine sd_move F 4 rfl ⟨rfl, rfl, rfl⟩ rfl (by kernel_rfl) (by kernel_rfl) (by kernel_rfl) (fun _ _ _ h => h) rfl hS fun A F => ?_
   refine sd_move F 5 rfl ⟨rfl, rfl, rfl⟩ rfl (by kernel_rfl) (by kernel_rfl) (by kernel_rfl) (fun _ _ _ h => h) rfl hS fun A F => ?_
   refine sd_at F 6 3 rfl ⟨rfl, rfl, rfl⟩ rfl rfl (by omega) Tryd.underlying32 (by kernel_rfl) (by kernel_rfl) (by kernel_rfl) (by kernel_rfl) (fun _ _ _ h => h) rfl hS fun A F => ?_
   refine sd_rng F 7 (cs := [.int .i64 j.op, .int .i64 j.a, .int .i64 j.b]) rfl ⟨rfl, rfl, rfl⟩ rfl (by kernel_rfl) (by kernel_rfl) (fun w h => (HB2.bx h).at_ _ _ hj) (by kernel_rfl) (by kernel_rfl) (by kernel_rfl) (fun _ _ _ h => h) rfl hS fun A F => ?_
   refine sd_val (v := .bool (!decide (i = j))) F 8 rfl (by kernel_rfl) (by kernel_rfl) (by kernel_rfl) (fun _ _ _ h => h) rfl rfl rfl (fun _ _ => run_nI rfl (F.ev rfl) (F.ev rfl)) hS fun A F => ?_
   clear hS
   refine wpAnyH_done (by kernel_rfl) ?_ _
   show Code.wp _ _ _ _ _
   refine sw_cond F rfl (fun hc3 => ?_) (fun hc3 => ?_)
   ·skip
    have hne : i ≠ j := by simpa using hc3
    refine sw_seq ?_
    refine sw_reg ?_
    refine sw_asg F ⟨rfl, rfl, rfl⟩ rfl rfl fun A F => ?_
    refine sw_end ?_
    show Code.wp _ _ _ _ _
    refine wp_ret ?_
    repeat (first | refine then_ret ?_ | refine block_ret ?_)
    refine sw_rettmp F Tryd.results24 rfl ⟨?_, M.st⟩
    rw [show decide (xs = ys) = false from decide_eq_false fun q => hne (by rw [q, hj] at hi; exact (Option.some.inj hi).symm)]
   ·skip
    have hne : i = j := by simpa using hc3
    refine wp_skip ?_
    show Code.wp _ _ _ _ _
    refine sw_reg ?_
    refine sw_add F ⟨rfl, rfl, rfl⟩ rfl rfl (by have := HB.le; omega) rfl fun A F => ?_
    refine sw_move F ⟨rfl, rfl, rfl⟩ rfl rfl fun A F => ?_
    refine sw_end ?_
    subst hne
    show _ ∧ _
    refine ⟨⟨c + 1, by omega, fun q hq => ?_, F.keep [0, 1, 12, 13] rfl, M⟩, ?_⟩
    ·by_cases e : q = c
     ·subst e; rw [hi, hj]
     ·exact heq q (by omega)
    rw [(F.keep (N := 26) (L' := [(13, .int .i64 ((c + 1 : Nat) : Int))]) [13] rfl).2.2 13 (.int .i64 ((c + 1 : Nat) : Int)) rfl, hA13]
    simp only [intOf]
    omega
  ·skip
   have hce : c = xs.length := by have := of_decide_eq_false hc2; omega
   refine wp_exit ?_
   repeat (first | refine then_exit ?_ | refine exit_block ?_ | refine exit_pass rfl ?_)
   show Code.wp _ _ _ _ _
   refine sw_seq ?_
   refine sw_reg ?_
   refine sw_asg F ⟨rfl, rfl, rfl⟩ rfl rfl fun A F => ?_
   refine sw_end ?_
   show Code.wp _ _ _ _ _
   refine wp_ret ?_
   repeat (first | refine then_ret ?_ | refine block_ret ?_)
   refine sw_rettmp F Tryd.results24 rfl ⟨?_, M.st⟩
   rw [show decide (xs = ys) = true from decide_eq_true (List.ext_getElem? fun q => by
     by_cases e : q < c
     ·exact heq q e
     ·rw [List.getElem?_eq_none (by omega), List.getElem?_eq_none (by omega)])]
theorem wp_loopN {P : Program} {Q : Exit → Act → World → Prop} {a : Act} {w : World} {c : Code} (I : Nat → Act → World → Prop) (n : Nat) (h : I n a w) (round : ∀ n a w, I n a w → c.wp P (Exit.then (fun a' w' => ∃ m, m < n ∧ I m a' w') Q) a w) : (Code.loop c).wp P Q a w := by
  have key : ∀ n N, n ≤ N → ∀ a w, I n a w → Code.rounds P c Q (N + 1) a w := by
    intro n
    induction n using Nat.strongRecOn with
    | ind n ih =>
      intro N hN a w hi
      refine Code.wp_mono (fun e a w q => ?_) (round n a w hi)
      cases e <;> first
        | (obtain ⟨m, hm, hi'⟩ := q
           obtain ⟨N', rfl⟩ : ∃ N', N = N' + 1 := ⟨N - 1, by omega⟩
           exact ih m hm N' (by omega) _ _ hi')
        | exact q
  exact wp_loop_rounds (n + 1) (key n n (Nat.le_refl _) a w h)
theorem RxOk.pop {c x : Nat} {op : List Nat} {zs : List Value} (h : RxOk 1 c ((op ++ [x]).map nI) zs) : RxOk 1 c (op.map nI) (.int .i64 ((x : Nat) : Int) :: zs) := by
  refine ⟨?_, nI_one, h.most⟩
  have := h.len
  rw [nI_flat] at this ⊢
  simp [nats] at this ⊢
  omega
section
variable {ops : Array Oper} {Q : Exit → Act → World → Prop} {a : Act} {w w0 : World} {rest : List Oper} {o : Oper} {N : Nat} {L : List (Nat × Value)} {σ : Type} {X : σ → World → Prop} {T : Nat → Prop} {E : List Ent} {s : σ}
theorem sw_mk0 (F : Fm N L a) (M : Mm X T w0 E s w) {i : Nat} {y : Operand} {k : Nat} (h : Is o (some i) (.buildSlice 37 1 #[(0, y)])) (hv : opv L y = some (.int .i64 ((k : Nat) : Int))) (hb : Nat.blt i N = true)
    (K : ∀ x a' w', RxOk 1 1 ([k].map nI) [] → Fm N ((i, .slice (some ⟨x, 0, none⟩) 1 1) :: L) a' → Mm X T w0 (.box x (flatV ([k].map nI) ++ []) 3 :: E) s w' → wpList Tryd.prog ops Q rest a' w') : wpList Tryd.prog ops Q (o :: rest) a w := by
  refine sw_val F h.1 h.2.2 hb (v := .slice (some ⟨w.heap.size, 0, none⟩) 1 1) (by unfold execOp; rw [h.2.1]; simp only [List.map_toArray, List.map_cons, List.map_nil, F.ev hv]; rw [Sem.run_bind, run_slice1Y (e := 3) (z := .int .i64 0) (n := 1) (.int .i64 ((k : Nat) : Int)) Tryd.underlying37 (by kernel_rfl) rfl (by decide) rfl]; rfl) fun a1 F1 => ?_
  refine K w.heap.size a1 _ ⟨rfl, nI_one, by unfold maxLen; omega⟩ F1 ?_
  exact M.own ((Below.refl _ _).alloc M.mem.le _) (M.mem.new _ 3)
end
end Go.Proofs.YtemjajljpoaioaaDoor
