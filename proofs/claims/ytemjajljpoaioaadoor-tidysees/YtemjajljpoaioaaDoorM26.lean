import Derived.Test.YtemjajljpoaioaaDoorYK
namespace Go.Proofs.YtemjajljpoaioaaDoor
open Go.RowKit
set_option linter.unusedVariables false
set_option linter.unusedSimpArgs false
set_option maxRecDepth 20000
set_option maxHeartbeats 8000000
section
variable {ops : Array Oper} {Q : Exit → Act → World → Prop} {a : Act} {w w0 : World} {rest : List Oper} {o1 o2 : Oper} {N : Nat} {L : List (Nat × Value)} {σ : Type} {X : σ → World → Prop} {T : Nat → Prop} {E : List Ent} {s : σ}
theorem sw_apx1 (F : Fm N L a) (M : Mm X T w0 E s w) (k : Nat) {i1 i2 sz c g n : Nat} {ty ety : TypeId} {x xs : Operand} {z V : Value} {es : List (List Fld)} {zs : List Value} {d : List Fld} (h1 : Is o1 (some i1) (.buildSlice ty 1 #[(0, x)])) (h2 : Is o2 (some i2) (.call { callee := .builtin .append, args := #[xs, .tmp i1], argTypes := #[ty, ty] })) (ht : o2.type = ty)
  (hx : opv L x = some V) (hV : V.cells = (d.map Fld.val).toArray) (hs : ∀ u, opv ((i1, u) :: L) xs = some (.slice (some ⟨g, 0, none⟩) n c)) (kk : E[k]? = some (.box g (flatV es ++ zs) ety)) (ok : RxOk sz c es zs) (hn : n = es.length) (hu : Tryd.prog.underlying ty = some (.slice ety)) (hi : (Tryd.prog.info? ety).map (fun i => (i.zero, i.size, decide (i.bytes ≤ 1000))) = some (some z, sz, true)) (hzs : z.cells.size = sz) (h0 : (Nat.blt 0 sz && Nat.ble sz 1000) = true) (hd : d.length = sz) (hb9 : es.length + 1 ≤ 100000000000) (hb : (Nat.blt i1 N && Nat.blt i2 N) = true)
  (K : ∀ g' c' zs' u a' w', RxOk sz c' (es ++ [d]) zs' → Fm N ((i2, .slice (some ⟨g', 0, none⟩) (es ++ [d]).length c') :: (i1, u) :: L) a' → Mm X T w0 (E.set k (.box g' (flatV (es ++ [d]) ++ zs') ety)) s w' → wpList Tryd.prog ops Q rest a' w') : wpList Tryd.prog ops Q (o1 :: o2 :: rest) a w := by
 rw [Bool.and_eq_true] at h0 hb
 have g1 : 0 < sz := by simpa [Nat.blt_eq] using h0.1
 have g2 : sz ≤ 1000 := by simpa [Nat.ble_eq] using h0.2
 refine sw_val F h1.1 h1.2.2 hb.1 (v := .slice (some ⟨w.heap.size, 0, none⟩) 1 1) (by unfold execOp; rw [h1.2.1]; simp only [List.map_toArray, List.map_cons, List.map_nil, F.ev hx]; rw [Sem.run_bind, run_slice1Y V hu hi hzs ⟨g1, g2⟩ (by rw [hV]; simp [hd])]; rfl) fun a1 F1 => ?_
 have M1 : Mm X T w0 (.box w.heap.size (d.map Fld.val) ety :: E) s (w.alloc (.cells V.cells ety)) := by
  rw [hV]
  exact M.own ((Below.refl _ _).alloc M.mem.le _) (M.mem.new _ ety)
 refine sw_appX F1 M1 (k + 1) (ad := ⟨w.heap.size, 0, none⟩) (gss := [d]) (c2 := 1) h2 ht kk ok (by simp [opv, lk, Nat.beq_refl]) (hs _) hn rfl hu hi hzs h0.1 (fun q u hq => ?_) (fun x hx => by rw [List.mem_singleton.1 hx]; exact hd) (by simpa using hb9) hb.2 fun g' c' zs' a' w' ok' F' M' => ?_
 ·have e0 : (⟨w.heap.size, 0, none⟩ : Addr).add q = ⟨w.heap.size, q, none⟩ := by simp [Addr.add]; intro z; exact z.symm
  rw [e0]
  exact M1.cell 0 rfl (by simpa [flatV] using hq)
 ·exact K g' c' zs' _ a' w' ok' F' M'.tl
theorem sw_apr1 (F : Fm N L a) (M : Mm X T w0 E s w) (k : Nat) {i1 i2 sz : Nat} {ty ety : TypeId} {x xs : Operand} {z V v : Value} {es : List (List Fld)} {d : List Fld} (h1 : Is o1 (some i1) (.buildSlice ty 1 #[(0, x)])) (h2 : Is o2 (some i2) (.call { callee := .builtin .append, args := #[xs, .tmp i1], argTypes := #[ty, ty] })) (ht : o2.type = ty)
  (hx : opv L x = some V) (hV : V.cells = (d.map Fld.val).toArray) (hs : ∀ u, opv ((i1, u) :: L) xs = some v) (kk : E[k]? = some (.row v ety sz es)) (hu : Tryd.prog.underlying ty = some (.slice ety)) (hi : (Tryd.prog.info? ety).map (fun i => (i.zero, i.size, decide (i.bytes ≤ 1000))) = some (some z, sz, true)) (hzs : z.cells.size = sz) (h0 : (Nat.blt 0 sz && Nat.ble sz 1000) = true) (hd : d.length = sz) (hl : ∀ w, lieAll w0.heap.size w d) (ha : ∀ b, apartAll b d) (hb9 : es.length + 1 ≤ 1000001) (hb : (Nat.blt i1 N && Nat.blt i2 N) = true)
  (K : ∀ la lc u a' w', Fm N ((i2, .slice la (es ++ [d]).length lc) :: (i1, u) :: L) a' → Mm X T w0 (E.set k (.row (.slice la (es ++ [d]).length lc) ety sz (es ++ [d]))) s w' → wpList Tryd.prog ops Q rest a' w') : wpList Tryd.prog ops Q (o1 :: o2 :: rest) a w := by
 rw [Bool.and_eq_true] at h0 hb
 have g1 : 0 < sz := by simpa [Nat.blt_eq] using h0.1
 have g2 : sz ≤ 1000 := by simpa [Nat.ble_eq] using h0.2
 refine sw_val F h1.1 h1.2.2 hb.1 (v := .slice (some ⟨w.heap.size, 0, none⟩) 1 1) (by unfold execOp; rw [h1.2.1]; simp only [List.map_toArray, List.map_cons, List.map_nil, F.ev hx]; rw [Sem.run_bind, run_slice1Y V hu hi hzs ⟨g1, g2⟩ (by rw [hV]; simp [hd])]; rfl) fun a1 F1 => ?_
 have M1 : Mm X T w0 (.box w.heap.size (d.map Fld.val) ety :: E) s (w.alloc (.cells V.cells ety)) := by
  rw [hV]
  exact M.own ((Below.refl _ _).alloc M.mem.le _) (M.mem.new _ ety)
 refine sw_appG F1 M1 (k + 1) (ad := ⟨w.heap.size, 0, none⟩) (gss := [d]) (c := 1) h2 ht (by simp [opv, lk, Nat.beq_refl]) (hs _) kk hu hi hzs g1 (fun q u hq => ?_) (fun x hx => by rw [List.mem_singleton.1 hx]; exact ⟨hd, hl _⟩) (fun _ _ b _ _ x hx => by rw [List.mem_singleton.1 hx]; exact ha b) (by simpa using hb9) hb.2 fun la lc a' w' F' M' => ?_
 ·have e0 : (⟨w.heap.size, 0, none⟩ : Addr).add q = ⟨w.heap.size, q, none⟩ := by simp [Addr.add]; intro z; exact z.symm
  rw [e0]
  exact M1.cell 0 rfl (by simpa [flatV] using hq)
 ·exact K la lc _ a' w' F' M'.tl
end
theorem Mm.newbox {w0 w w' : World} {E : List Ent} (M : Mm (Bx w0) (fun _ => False) w0 E () w) (hb : Below w.heap.size w w') {g : Nat} {cs : List Value} {t : TypeId} (hg : w.heap.size ≤ g) (hk : Blk w' g cs.toArray t) : Mm (Bx w0) (fun _ => False) w0 (.box g cs t :: E) () w' := by
 have M1 := M.aft hb
 refine M1.own (Below.refl _ _) (M1.mem.push (e := .box g cs t) ⟨Nat.le_trans M.mem.le hg, hk⟩ (fun i f b hf hm => ?_) fun i f b hf hm => ?_)
 ·obtain rfl : g = b := hm
  exact Ent.free_new (M.mem.at_ i f hf) hg
 ·have := (Ent.mut_lt (M.mem.at_ i f hf) hm).2
  show g ≠ b
  omega
def NewB (w w' : World) (e : Ending) (n c : Nat) (cs : List Value) (t : TypeId) : Prop := ∃ g, e = .returned (.slice (some ⟨g, 0, none⟩) n c) ∧ w.heap.size ≤ g ∧ Blk w' g cs.toArray t
def MethE (f : FuncId) (vs : List Value) (E1 : List Ent) (Post : Value → List Ent → Prop) : Prop :=
 enters Tryd.prog f = true ∧ ∀ (w0 : World) (E : List Ent) (w : World), Mm (Bx w0) (fun _ => False) w0 (E1 ++ E) () w → Calls Tryd.prog f vs.toArray w fun e w' => ∃ v E2, e = .returned v ∧ Mm (Bx w0) (fun _ => False) w0 (E2 ++ E) () w' ∧ Post v E2
theorem Mem.perm {base : Nat} {A A' E : List Ent} {w : World} (M : Mem base (A ++ E) w) (σ : List Nat) (h1 : σ.map (fun j => A[j]?) = A'.map some) (h2 : A'.length = A.length) (h3 : σ.Nodup) : Mem base (A' ++ E) w := by
 have hl : σ.length = A'.length := by
  have := congrArg List.length h1
  simpa using this
 have at_ : ∀ (i : Nat) (e : Ent), (A' ++ E)[i]? = some e → (A ++ E)[if h : i < σ.length then σ[i] else i]? = some e := fun i e hi => by
  by_cases q : i < σ.length
  ·rw [dif_pos q]
   rw [List.getElem?_append_left (by omega)] at hi
   have := congrArg (fun l => l[i]?) h1
   simp only [List.getElem?_map, List.getElem?_eq_getElem q, hi, Option.map_some, Option.some.injEq] at this
   rw [List.getElem?_append_left (List.getElem?_eq_some_iff.1 this).1]
   exact this
  ·rw [dif_neg q]
   rw [List.getElem?_append_right (by omega)] at hi ⊢
   rw [← h2]
   exact hi
 refine ⟨M.le, fun i e hi => M.at_ _ e (at_ i e hi), fun i j e f b hij hi hj hm => M.sep _ _ e f b ?_ (at_ i e hi) (at_ j f hj) hm⟩
 have inr : ∀ (k : Nat) (hk : k < σ.length), σ[k] < A.length := fun k hk => by
  have := congrArg (fun l => l[k]?) h1
  simp only [List.getElem?_map, List.getElem?_eq_getElem hk, Option.map_some] at this
  rw [List.getElem?_eq_getElem (show k < A'.length by omega)] at this
  exact (List.getElem?_eq_some_iff.1 (Option.some.inj this)).1
 by_cases qi : i < σ.length
 ·by_cases qj : j < σ.length
  ·rw [dif_pos qi, dif_pos qj]
   intro e
   rcases Nat.lt_or_gt_of_ne hij with q | q
   ·exact (List.pairwise_iff_getElem.1 h3) i j qi qj q e
   ·exact (List.pairwise_iff_getElem.1 h3) j i qj qi q e.symm
  ·rw [dif_pos qi, dif_neg qj]
   have := inr i qi
   omega
 ·by_cases qj : j < σ.length
  ·rw [dif_neg qi, dif_pos qj]
   have := inr j qj
   omega
  ·rw [dif_neg qi, dif_neg qj]
   exact hij
theorem Mm.permE {w0 w : World} {A A' E : List Ent} (M : Mm (Bx w0) (fun _ => False) w0 (A ++ E) () w) (σ : List Nat) (h1 : σ.map (fun j => A[j]?) = A'.map some) (h2 : A'.length = A.length) (h3 : σ.Nodup) : Mm (Bx w0) (fun _ => False) w0 (A' ++ E) () w := M.own (Below.refl _ _) (M.mem.perm σ h1 h2 h3)
theorem sw_callE {ops : Array Oper} {Q : Exit → Act → World → Prop} {a : Act} {w w0 : World} {rest : List Oper} {o : Oper} {N : Nat} {L : List (Nat × Value)} {f : FuncId} {vs : List Value} {E1 E : List Ent} {Post : Value → List Ent → Prop} (hM : MethE f vs E1 Post) (F : Fm N L a) (M : Mm (Bx w0) (fun _ => False) w0 (E1 ++ E) () w) {i : Nat} {xs : Array Operand} {ts : Array TypeId} (h : Is o (some i) (.call { callee := .value (.func f), args := xs, argTypes := ts })) (hv : opvs L xs.toList = some vs) (hi : Nat.blt i N = true)
  (K : ∀ v E2 a' w', Post v E2 → Fm N ((i, v) :: L) a' → Mm (Bx w0) (fun _ => False) w0 (E2 ++ E) () w' → wpList Tryd.prog ops Q rest a' w') : wpList Tryd.prog ops Q (o :: rest) a w :=
 sw_callR hM.1 (hM.2 w0 E w M) F h hv hi fun e w' ⟨v, E2, he, M', hp⟩ => ⟨v, he, fun a' F' => K v E2 a' w' hp F' M'⟩
theorem flI_at {w : World} {g : Nat} {xs : List Ins} {zs : List Value} {t : TypeId} (h : Blk w g (flatV (xs.map Ins.flds) ++ zs).toArray t) (hl : xs.length ≤ 2048) : Body w g 0 xs :=
 ⟨h.lt, fun k i hi j v hv => by
  rw [h.cell, Nat.zero_add]
  have := flatVx_at (sz := 3) (xs.map Ins.flds) k i.flds (fun d hd => by obtain ⟨y, _, rfl⟩ := List.mem_map.1 hd; rfl) (by rw [List.getElem?_map, hi]; rfl) j v hv
  rw [List.getElem?_toArray, List.getElem?_append_left (List.getElem?_eq_some_iff.1 this).1]
  exact this, hl⟩
set_option maxRecDepth 20000 in
set_option maxHeartbeats 8000000 in
theorem tto_m {w0 : World} {rb ro lc : Nat} {xs : List Ins} (HB : Body w0 rb ro xs) (L : Lds xs) : Calls Tryd.prog 28 ([.slice (some ⟨rb, ro, none⟩) xs.length lc] : List Value).toArray w0 fun e w' => NewB w0 w' e xs.length xs.length ((jmpd xs).map Value.bool) 4 ∧ Below w0.heap.size w0 w' := by
 have M := bx_begin (w0 := w0) (w := w0) (Below.refl _ _)
 refine sw_fn Tryd.func28 rfl 23 Tryd.ntmps28 rfl fun A F => ?_
 refine sw_seq ?_
 refine sw_reg ?_
 refine sw_asg F ⟨rfl, rfl, rfl⟩ rfl rfl fun A F => ?_
 refine sw_end ?_
 show Code.wp _ _ _ _ _
 refine sw_seq ?_
 refine sw_reg ?_
 refine sw_move F ⟨rfl, rfl, rfl⟩ rfl rfl fun A F => ?_
 refine sw_len F ⟨rfl, rfl, rfl⟩ rfl Tryd.underlying32 rfl fun A F => ?_
 refine sw_makebools F M (n := xs.length) ⟨rfl, rfl, rfl⟩ rfl rfl (by have := HB.le; omega) rfl fun x1 A w F M => ?_
 refine sw_asg F ⟨rfl, rfl, rfl⟩ rfl rfl fun A F => ?_
 refine sw_end ?_
 show Code.wp _ _ _ _ _
 refine sw_seq ?_
 refine sw_seq ?_
 refine sw_reg ?_
 refine sw_move F ⟨rfl, rfl, rfl⟩ rfl rfl fun A F => ?_
 refine sw_len F ⟨rfl, rfl, rfl⟩ rfl Tryd.underlying32 rfl fun A F => ?_
 refine sw_move F ⟨rfl, rfl, rfl⟩ rfl rfl fun A F => ?_
 refine sw_end ?_
 show Code.wp _ _ _ _ _
 refine wp_block ?_
 refine wp_loop (fun A w => ∃ c : Nat, ∃ l : (List Bool), c ≤ xs.length ∧ l.length = xs.length ∧ l = (xs.take c).foldl jSet (List.replicate xs.length false) ∧ Fm 23 [(0, .slice (some ⟨rb, ro, none⟩) xs.length lc), (3, .slice (some ⟨x1, 0, none⟩) xs.length xs.length), (9, .slice (some ⟨rb, ro, none⟩) xs.length lc), (10, .int .i64 ((xs.length : Nat) : Int)), (11, .int .i64 ((c : Nat) : Int))] A ∧ Mm (Bx w0) (fun _ => False) w0 [.box x1 (l.map Value.bool) 4] () w) (fun A _ => xs.length - (intOf (A.eval (.tmp 11))).toNat) ?_ ?_
 ·exact ⟨0, _, (Nat.zero_le _), (by simp), (by simp), F.keep [0, 3, 9, 10, 11] rfl, M⟩
 repeat clear F
 repeat clear M
 rintro A w ⟨c, l, hc, hlen, heq, F, M⟩
 have hA11 : A.eval (.tmp 11) = .int .i64 ((c : Nat) : Int) := F.2.2 11 _ rfl
 refine sw_seq ?_
 refine sw_reg ?_
 refine sw_lss F ⟨rfl, rfl, rfl⟩ rfl rfl rfl fun A F => ?_
 refine sw_end ?_
 show Code.wp _ _ _ _ _
 refine sw_seq ?_
 refine sw_cond F rfl (fun hc2 => ?_) (fun hc2 => ?_)
 ·skip
  have hcl : c < xs.length := by have := of_decide_eq_true hc2; omega
  refine wp_skip ?_
  show Code.wp _ _ _ _ _
  refine sw_seq ?_
  refine wp_block ?_
  refine sw_seq ?_
  refine sw_reg ?_
  refine sw_at F 3 ⟨rfl, rfl, rfl⟩ rfl rfl (hcl) Tryd.underlying32 (by kernel_rfl) rfl fun A F => ?_
  obtain ⟨i, hi⟩ : ∃ i, xs[c]? = some i := ⟨_, List.getElem?_eq_getElem hcl⟩
  refine sw_rng F (cs := [.int .i64 i.op, .int .i64 i.a, .int .i64 i.b]) ((HB.bx M.st).at_ _ _ (hi)) ⟨rfl, rfl, rfl⟩ rfl (by kernel_rfl) (by kernel_rfl) rfl fun A F => ?_
  refine sw_alloc F M [.int .i64 0, .int .i64 0, .int .i64 0] ⟨rfl, rfl, rfl⟩ (by kernel_rfl) rfl fun x3 A w F M => ?_
  refine sw_setAll F M 0 ⟨rfl, rfl, rfl⟩ rfl rfl rfl (by kernel_rfl) rfl rfl fun w M => ?_
  simp only [List.set_cons_zero, List.set_cons_succ] at M
  refine sw_end ?_
  show Code.wp _ _ _ _ _
  refine sw_seq ?_
  refine sw_reg ?_
  refine sw_all F M 0 ⟨rfl, rfl, rfl⟩ rfl rfl (by kernel_rfl) (by kernel_rfl) rfl fun A F => ?_
  refine sw_callR (by kernel_rfl) (tjump_any i w) F ⟨rfl, rfl, rfl⟩ rfl rfl ?_
  rintro _ w ⟨rfl, hb⟩
  refine ⟨_, rfl, fun A F => ?_⟩
  replace M := M.aft hb
  clear hb
  refine sw_end ?_
  show Code.wp _ _ _ _ _
  refine sw_cond F rfl (fun hc4 => ?_) (fun hc4 => ?_)
  ·skip
   have hj := hc4
   obtain ⟨hl0, hl1⟩ := L i (List.mem_of_getElem? hi) hj
   refine sw_reg ?_
   refine sw_move F ⟨rfl, rfl, rfl⟩ rfl rfl fun A F => ?_
   refine sw_fld F 1 ⟨rfl, rfl, rfl⟩ rfl (by kernel_rfl) rfl rfl fun A F => ?_
   refine sw_cell F M 0 ⟨rfl, rfl, rfl⟩ rfl rfl rfl (by kernel_rfl) rfl fun A F => ?_
   refine sw_atI F 1 ⟨rfl, rfl, rfl⟩ rfl rfl (⟨hl0, hl1⟩) Tryd.underlying47 (by kernel_rfl) rfl fun A F => ?_
   refine sw_bset F M 1 ⟨rfl, rfl, rfl⟩ rfl rfl rfl (by kernel_rfl) (by rw [Nat.zero_add, Nat.mul_one]; exact by rw [hlen]; exact hl1) fun w M => ?_
   rw [show 0 + i.a.toNat * 1 = i.a.toNat by omega] at M
   simp only [List.set_cons_zero, List.set_cons_succ] at M
   refine sw_end ?_
   show Code.wp _ _ _ _ _
   refine sw_reg ?_
   refine sw_add F ⟨rfl, rfl, rfl⟩ rfl rfl (by have := HB.le; omega) rfl fun A F => ?_
   refine sw_move F ⟨rfl, rfl, rfl⟩ rfl rfl fun A F => ?_
   refine sw_end ?_
   replace M := M.drop 0 rfl
   have hN : xs.take (c + 1) = xs.take c ++ [i] := by rw [List.take_add_one, hi]; rfl
   show _ ∧ _
   refine ⟨⟨c + 1, (l.set i.a.toNat true), by omega, by simp [hlen], by rw [hN, List.foldl_append, ← heq]; simp [jSet, hj], F.keep [0, 3, 9, 10, 11] rfl, M⟩, ?_⟩
   rw [(F.keep (N := 23) (L' := [(11, .int .i64 ((c + 1 : Nat) : Int))]) [11] rfl).2.2 11 (.int .i64 ((c + 1 : Nat) : Int)) rfl, hA11]
   simp only [intOf]
   omega
  ·skip
   have hj := hc4
   refine wp_skip ?_
   show Code.wp _ _ _ _ _
   refine sw_reg ?_
   refine sw_add F ⟨rfl, rfl, rfl⟩ rfl rfl (by have := HB.le; omega) rfl fun A F => ?_
   refine sw_move F ⟨rfl, rfl, rfl⟩ rfl rfl fun A F => ?_
   refine sw_end ?_
   replace M := M.drop 0 rfl
   show _ ∧ _
   refine ⟨⟨c + 1, l, by omega, by simp [hlen], by rw [List.take_add_one, hi]; simp only [Option.toList_some, List.foldl_append, List.foldl_cons, List.foldl_nil]; rw [← heq]; unfold jSet; rw [if_neg (by rw [hj]; decide)], F.keep [0, 3, 9, 10, 11] rfl, M⟩, ?_⟩
   rw [(F.keep (N := 23) (L' := [(11, .int .i64 ((c + 1 : Nat) : Int))]) [11] rfl).2.2 11 (.int .i64 ((c + 1 : Nat) : Int)) rfl, hA11]
   simp only [intOf]
   omega
 ·skip
  have hce : c = xs.length := by have := of_decide_eq_false hc2; omega
  refine wp_exit ?_
  repeat (first | refine then_exit ?_ | refine exit_block ?_ | refine exit_pass rfl ?_)
  show Code.wp _ _ _ _ _
  refine sw_seq ?_
  refine sw_reg ?_
  refine sw_move F ⟨rfl, rfl, rfl⟩ rfl rfl fun A F => ?_
  refine sw_asg F ⟨rfl, rfl, rfl⟩ rfl rfl fun A F => ?_
  refine sw_end ?_
  show Code.wp _ _ _ _ _
  refine wp_ret ?_
  repeat (first | refine then_ret ?_ | refine block_ret ?_)
  rw [hce, List.take_length] at heq
  have k := (M.mem.box (k := 0) rfl).1
  rw [heq] at k
  exact sw_rettmp F Tryd.results28 rfl ⟨⟨x1, rfl, (M.mem.box (k := 0) rfl).2, k⟩, M.st⟩
end Go.Proofs.YtemjajljpoaioaaDoor
