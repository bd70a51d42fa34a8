import Derived.Test.YtemjajljpoaioaaDoorYT1
import Derived.Test.YtemjajljpoaioaaDoorYT3
namespace Go.Proofs.YtemjajljpoaioaaDoor
open Go.RowKit
set_option linter.unusedVariables false
set_option linter.unusedSimpArgs false
set_option maxRecDepth 20000
set_option maxHeartbeats 8000000
theorem flds3 {xs : List Ins} : ∀ d ∈ xs.map Ins.flds, d.length = 3 := fun d hd => by obtain ⟨y, _, rfl⟩ := List.mem_map.1 hd; rfl
theorem srcI {w : World} {rb ro : Nat} {xs : List Ins} (H : Body w rb ro xs) : SrcOf w (some ⟨rb, ro, none⟩) (xs.map Ins.flds) := fun _ => by
 refine ⟨rb, ro, rfl, fun j u hj => ?_⟩
 have hl := (List.getElem?_eq_some_iff.1 hj).1
 rw [flatV_len (sz := 3) flds3, List.length_map] at hl
 obtain ⟨i, hi⟩ : ∃ i, xs[j / 3]? = some i := ⟨_, List.getElem?_eq_getElem (by omega)⟩
 have h1 := H.at_ _ i hi (j % 3)
 have hm : j % 3 < 3 := Nat.mod_lt _ (by decide)
 obtain ⟨v, hv⟩ : ∃ v, (i.flds.map Fld.val)[j % 3]? = some v := ⟨_, List.getElem?_eq_getElem (by simpa [Ins.flds] using hm)⟩
 have h2 := flatVx_at (sz := 3) (xs.map Ins.flds) (j / 3) i.flds flds3 (by rw [List.getElem?_map, hi]; rfl) (j % 3) v hv
 rw [show j / 3 * 3 + j % 3 = j by omega, hj] at h2
 cases h2
 have := h1 _ hv
 rwa [show ro + j / 3 * 3 + j % 3 = ro + j by omega] at this
theorem rx_len {c : Nat} {ys ys' : List Ins} {zs : List Value} (h : RxOk 3 c (ys.map Ins.flds) zs) (hl : ys'.length = ys.length) : RxOk 3 c (ys'.map Ins.flds) zs := by
 refine ⟨?_, flds3, h.most⟩
 have := h.len
 rw [List.length_append, flatV_len (sz := 3) flds3, List.length_map] at this ⊢
 rw [hl]
 exact this
theorem flatA : ∀ (ys : List Ins) (zs : List Value) (c : Nat) (i : Ins) (v : Int), ys[c]? = some i → (flatV (ys.map Ins.flds) ++ zs).set (0 + c * 3 + 1) (.int .i64 v) = flatV ((ys.set c ⟨i.op, v, i.b⟩).map Ins.flds) ++ zs
 | [], _, _, _, _, h => by simp at h
 | y :: ys, zs, 0, i, v, h => by
  obtain rfl : y = i := by simpa using h
  rfl
 | y :: ys, zs, c + 1, i, v, h => by
  have := flatA ys zs c i v (by simpa using h)
  rw [show 0 + (c + 1) * 3 + 1 = (0 + c * 3 + 1) + 1 + 1 + 1 by omega]
  show Value.int .i64 y.op :: Value.int .i64 y.a :: Value.int .i64 y.b :: (flatV (ys.map Ins.flds) ++ zs).set (0 + c * 3 + 1) (.int .i64 v) = _
  rw [this]
  rfl
section
variable {P : Program} {ops : Array Oper} {Q : Exit → Act → World → Prop} {a : Act} {w w0 : World} {rest : List Oper} {o : Oper} {N : Nat} {L : List (Nat × Value)} {i t u : Nat} {x y : Operand} {σ : Type} {X : σ → World → Prop} {T : Nat → Prop} {E : List Ent} {s : σ}
theorem sw_setA (F : Fm N L a) (M : Mm X T w0 E s w) (k : Nat) {b c cl : Nat} {v : Int} {ys : List Ins} {zs : List Value} {ty : TypeId} {j : Ins} (ok : RxOk 3 cl (ys.map Ins.flds) zs) (h : Is o none (.store t x y)) (hx : opv L x = some (.pointer (some ⟨b, 0 + c * 3 + 1, none⟩))) (hv : opv L y = some (.int .i64 v)) (hk : E[k]? = some (.box b (flatV (ys.map Ins.flds) ++ zs) ty)) (hj : ys[c]? = some j) (hi : (P.info? t).map (·.size) = some 1) (K : ∀ w', Mm X T w0 (E.set k (.box b (flatV ((ys.set c ⟨j.op, v, j.b⟩).map Ins.flds) ++ zs) ty)) s w' → wpList P ops Q rest a w') : wpList P ops Q (o :: rest) a w := by
 refine sw_set F M k h hx hv hk hi ?_ rfl rfl fun w' M' => K w' (by rw [← flatA ys zs c j v hj]; exact M')
 have hl := (List.getElem?_eq_some_iff.1 hj).1
 have h1 : (flatV (ys.map Ins.flds)).length = ys.length * 3 := by rw [flatV_len (sz := 3) flds3, List.length_map]
 simp only [Nat.blt_eq, List.length_append]
 omega
theorem Mm.insat (M : Mm X T w0 E s w) (k : Nat) {b c cl : Nat} {ys : List Ins} {zs : List Value} {ty : TypeId} {j : Ins} (ok : RxOk 3 cl (ys.map Ins.flds) zs) (hk : E[k]? = some (.box b (flatV (ys.map Ins.flds) ++ zs) ty)) (hj : ys[c]? = some j) : w.rangeAt b (0 + c * 3) [.int .i64 j.op, .int .i64 j.a, .int .i64 j.b] :=
 rx_range (d := j.flds) M.mem hk ok (by rw [List.getElem?_map, hj]; rfl)
end
theorem upd_get {f : Nat → Ins → Ins} {xs : List Ins} {c : Nat} {i : Ins} (h : xs[c]? = some i) : ((xs.mapIdx f).take c ++ xs.drop c)[c]? = some i := by
 have hl := (List.getElem?_eq_some_iff.1 h).1
 have e : ((xs.mapIdx f).take c).length = c := by rw [List.length_take, List.length_mapIdx]; omega
 rw [List.getElem?_append_right (by omega), e, Nat.sub_self, List.getElem?_drop, Nat.add_zero]
 exact h
theorem upd_len (f : Nat → Ins → Ins) (xs : List Ins) {c : Nat} (h : c ≤ xs.length) : ((xs.mapIdx f).take c ++ xs.drop c).length = xs.length := by
 rw [List.length_append, List.length_take, List.length_mapIdx, List.length_drop]
 omega
theorem upd_step {f : Nat → Ins → Ins} {xs : List Ins} {c : Nat} {i : Ins} (h : xs[c]? = some i) : ((xs.mapIdx f).take c ++ xs.drop c).set c (f c i) = (xs.mapIdx f).take (c + 1) ++ xs.drop (c + 1) := by
 have hl := (List.getElem?_eq_some_iff.1 h).1
 have e : ((xs.mapIdx f).take c).length = c := by rw [List.length_take, List.length_mapIdx]; omega
 have hg : (xs.mapIdx f)[c]? = some (f c i) := by rw [List.getElem?_mapIdx, h]; rfl
 have hd : xs.drop c = i :: xs.drop (c + 1) := by rw [List.drop_eq_getElem_cons hl, (List.getElem?_eq_some_iff.1 h).2]
 rw [List.set_append_right _ _ (by omega), e, Nat.sub_self, List.take_add_one, hg, hd]
 simp
theorem upd_keep {f : Nat → Ins → Ins} {xs : List Ins} {c : Nat} {i : Ins} (h : xs[c]? = some i) (hf : f c i = i) : (xs.mapIdx f).take c ++ xs.drop c = (xs.mapIdx f).take (c + 1) ++ xs.drop (c + 1) := by
 have h1 := upd_step (f := f) h
 rw [hf] at h1
 rw [← h1]
 obtain ⟨hl, he⟩ := List.getElem?_eq_some_iff.1 (upd_get (f := f) h)
 conv => lhs; rw [← List.set_getElem_self hl]
 rw [he]
theorem upd_zero (f : Nat → Ins → Ins) (xs : List Ins) : (xs.mapIdx f).take 0 ++ xs.drop 0 = xs := by simp
theorem upd_all (f : Nat → Ins → Ins) (xs : List Ins) : (xs.mapIdx f).take xs.length ++ xs.drop xs.length = xs.mapIdx f := by
 rw [List.drop_length, List.append_nil, List.take_of_length_le (by simp)]
def nI (k : Nat) : List Fld := [.i (k : Int)]
theorem nI_flat (os : List Nat) : flatV (os.map nI) = nats os := by
 induction os with
 | nil => rfl
 | cons k r ih => show Value.int .i64 (k : Int) :: flatV (r.map nI) = _; rw [ih]; rfl
theorem nI_one {os : List Nat} : ∀ d ∈ os.map nI, d.length = 1 := fun d hd => by obtain ⟨y, _, rfl⟩ := List.mem_map.1 hd; rfl
theorem tend_i {w0 : World} {rb ro lc : Nat} {xs : List Ins} (HB : Body w0 rb ro xs) (L : Lds xs) {k : Int} (h0 : 0 ≤ k) (hk : k.toNat < xs.length) : Calls Tryd.prog 34 ([.slice (some ⟨rb, ro, none⟩) xs.length lc, .int .i64 k] : List Value).toArray w0 fun e w' => e = .returned (.tuple #[.int .i64 (((endOf xs xs.length k.toNat).getD 0 : Nat) : Int), .bool (endOf xs xs.length k.toNat).isSome]) ∧ Below w0.heap.size w0 w' := by
 have := tend_m (lc := lc) HB L hk
 rw [Int.toNat_of_nonneg h0] at this
 exact this
def BodyQ (w w' : World) (e : Ending) (ys : List Ins) : Prop := ∃ g c, e = .returned (.slice (some ⟨g, 0, none⟩) ys.length c) ∧ Body w' g 0 ys ∧ w.heap.size ≤ g ∧ ys.length ≤ c ∧ c ≤ maxLen
set_option maxRecDepth 20000 in
set_option maxHeartbeats 8000000 in
theorem tstr_m {w0 : World} {rb ro lc : Nat} {xs : List Ins} (HB : Body w0 rb ro xs) (L : Lds xs) : Calls Tryd.prog 23 ([.slice (some ⟨rb, ro, none⟩) xs.length lc] : List Value).toArray w0 fun e w' => BodyQ w0 w' e (strt xs) ∧ Below w0.heap.size w0 w' := by
 have M := bx_begin (w0 := w0) (w := w0) (Below.refl _ _)
 refine sw_fn Tryd.func23 rfl 45 Tryd.ntmps23 rfl fun A F => ?_
 refine sw_seq ?_
 refine sw_reg ?_
 refine sw_asg F ⟨rfl, rfl, rfl⟩ rfl rfl fun A F => ?_
 refine sw_end ?_
 show Code.wp _ _ _ _ _
 refine sw_seq ?_
 refine sw_reg ?_
 refine sw_move F ⟨rfl, rfl, rfl⟩ rfl rfl fun A F => ?_
 refine sw_callR (by kernel_rfl) (cloneI_m (la := some ⟨rb, ro, none⟩) (lc := lc) (gss := xs.map Ins.flds) (srcI HB) flds3 (by have := HB.le; simp; omega)) F ⟨rfl, rfl, rfl⟩ (by rw [List.length_map]; rfl) rfl ?_
 rintro _ w ⟨⟨q, _⟩ | ⟨xl, cl, zs, rfl, ok, hg, hk⟩, hb⟩
 ·cases q
 refine ⟨_, rfl, fun A F => ?_⟩
 replace M := M.newbox hb hg hk
 clear hb hg hk
 rw [List.length_map] at F
 refine sw_asg F ⟨rfl, rfl, rfl⟩ rfl rfl fun A F => ?_
 refine sw_end ?_
 show Code.wp _ _ _ _ _
 refine sw_seq ?_
 refine sw_seq ?_
 refine sw_reg ?_
 refine sw_move F ⟨rfl, rfl, rfl⟩ rfl rfl fun A F => ?_
 refine sw_len F ⟨rfl, rfl, rfl⟩ rfl Tryd.underlying32 rfl fun A F => ?_
 refine sw_move F ⟨rfl, rfl, rfl⟩ rfl rfl fun A F => ?_
 refine sw_end ?_
 show Code.wp _ _ _ _ _
 refine wp_block ?_
 rw [← upd_zero (strI xs) xs] at M
 refine wp_loop (fun A w => ∃ c : Nat, (c ≤ xs.length) ∧ Fm 45 [(0, .slice (some ⟨rb, ro, none⟩) xs.length lc), (3, .slice (some ⟨xl, 0, none⟩) xs.length cl), (10, .slice (some ⟨rb, ro, none⟩) xs.length lc), (11, .int .i64 ((xs.length : Nat) : Int)), (12, .int .i64 ((c : Nat) : Int))] A ∧ Mm (Bx w0) (fun _ => False) w0 [.box xl (flatV (((xs.mapIdx (strI xs)).take c ++ xs.drop c).map Ins.flds) ++ zs) 31] () w) (fun A _ => xs.length - (intOf (A.eval (.tmp 12))).toNat) ?_ ?_
 ·exact ⟨0, (Nat.zero_le _), F.keep [0, 3, 10, 11, 12] rfl, M⟩
 repeat clear F
 repeat clear M
 rintro A w ⟨c, hc, F, M⟩
 have hA12 : A.eval (.tmp 12) = .int .i64 ((c : Nat) : Int) := F.2.2 12 _ rfl
 refine sw_seq ?_
 refine sw_reg ?_
 refine sw_lss F ⟨rfl, rfl, rfl⟩ rfl rfl rfl fun A F => ?_
 refine sw_end ?_
 show Code.wp _ _ _ _ _
 refine sw_seq ?_
 refine sw_cond F rfl (fun hc1 => ?_) (fun hc1 => ?_)
 ·skip
  have hcl : c < xs.length := by have := of_decide_eq_true hc1; omega
  refine wp_skip ?_
  show Code.wp _ _ _ _ _
  refine sw_seq ?_
  refine wp_block ?_
  refine sw_seq ?_
  refine sw_reg ?_
  refine sw_move F ⟨rfl, rfl, rfl⟩ rfl rfl fun A F => ?_
  refine sw_at F 3 ⟨rfl, rfl, rfl⟩ rfl rfl (hcl) Tryd.underlying32 (by kernel_rfl) rfl fun A F => ?_
  obtain ⟨i, hi⟩ : ∃ i, xs[c]? = some i := ⟨_, List.getElem?_eq_getElem hcl⟩
  refine sw_rng F (cs := [.int .i64 i.op, .int .i64 i.a, .int .i64 i.b]) ((HB.bx M.st).at_ _ _ (hi)) ⟨rfl, rfl, rfl⟩ rfl (by kernel_rfl) (by kernel_rfl) rfl fun A F => ?_
  refine sw_alloc F M [.int .i64 0, .int .i64 0, .int .i64 0] ⟨rfl, rfl, rfl⟩ (by kernel_rfl) rfl fun x2 A w F M => ?_
  refine sw_asg F ⟨rfl, rfl, rfl⟩ rfl rfl fun A F => ?_
  refine sw_setAll F M 0 ⟨rfl, rfl, rfl⟩ rfl rfl rfl (by kernel_rfl) rfl rfl fun w M => ?_
  simp only [List.set_cons_zero, List.set_cons_succ] at M
  refine sw_end ?_
  show Code.wp _ _ _ _ _
  refine sw_seq ?_
  refine sw_seq ?_
  refine sw_reg ?_
  refine sw_all F M 0 ⟨rfl, rfl, rfl⟩ rfl rfl (by kernel_rfl) (by kernel_rfl) rfl fun A F => ?_
  refine sw_callR (by kernel_rfl) (tjump_any i w) F ⟨rfl, rfl, rfl⟩ rfl rfl ?_
  rintro _ w ⟨rfl, hb⟩
  refine ⟨_, rfl, fun A F => ?_⟩
  replace M := M.aft hb
  clear hb
  refine sw_not F ⟨rfl, rfl, rfl⟩ rfl rfl fun A F => ?_
  refine sw_end ?_
  show Code.wp _ _ _ _ _
  refine sw_cond F rfl (fun hc3 => ?_) (fun hc3 => ?_)
  ·skip
   have hj : isJ i = false := by simpa using hc3
   refine wp_exit ?_
   repeat (first | refine then_exit ?_ | refine exit_block ?_ | refine exit_pass rfl ?_)
   show Code.wp _ _ _ _ _
   refine sw_reg ?_
   refine sw_add F ⟨rfl, rfl, rfl⟩ rfl rfl (by have := HB.le; omega) rfl fun A F => ?_
   refine sw_move F ⟨rfl, rfl, rfl⟩ rfl rfl fun A F => ?_
   refine sw_end ?_
   replace M := M.drop 0 rfl
   rw [upd_keep hi (strI_no (by rw [hj]; decide))] at M
   show _ ∧ _
   refine ⟨⟨c + 1, by omega, F.keep [0, 3, 10, 11, 12] rfl, M⟩, ?_⟩
   rw [(F.keep (N := 45) (L' := [(12, .int .i64 ((c + 1 : Nat) : Int))]) [12] rfl).2.2 12 (.int .i64 ((c + 1 : Nat) : Int)) rfl, hA12]
   simp only [intOf]
   omega
  ·skip
   have hj : isJ i = true := by simpa using hc3
   refine wp_skip ?_
   show Code.wp _ _ _ _ _
   refine sw_seq ?_
   refine sw_reg ?_
   refine sw_move F ⟨rfl, rfl, rfl⟩ rfl rfl fun A F => ?_
   refine sw_fld F 1 ⟨rfl, rfl, rfl⟩ rfl (by kernel_rfl) rfl rfl fun A F => ?_
   refine sw_cell F M 0 ⟨rfl, rfl, rfl⟩ rfl rfl rfl (by kernel_rfl) rfl fun A F => ?_
   obtain ⟨hl0, hl1⟩ := L i (List.mem_of_getElem? hi) hj
   refine sw_callR (by kernel_rfl) (tend_i (lc := lc) (HB.bx M.st) L hl0 hl1) F ⟨rfl, rfl, rfl⟩ rfl rfl ?_
   rintro _ w ⟨rfl, hb⟩
   refine ⟨_, rfl, fun A F => ?_⟩
   replace M := M.aft hb
   clear hb
   generalize he : endOf xs xs.length i.a.toNat = e at F
   refine sw_move F ⟨rfl, rfl, rfl⟩ rfl rfl fun A F => ?_
   refine sw_extr F ⟨rfl, rfl, rfl⟩ rfl rfl rfl fun A F => ?_
   refine sw_extr F ⟨rfl, rfl, rfl⟩ rfl rfl rfl fun A F => ?_
   refine sw_asg F ⟨rfl, rfl, rfl⟩ rfl rfl fun A F => ?_
   refine sw_asg F ⟨rfl, rfl, rfl⟩ rfl rfl fun A F => ?_
   refine sw_end ?_
   show Code.wp _ _ _ _ _
   refine wp_block ?_
   refine sw_seq ?_
   refine sw_reg ?_
   refine sw_move F ⟨rfl, rfl, rfl⟩ rfl rfl fun A F => ?_
   refine sw_asg F ⟨rfl, rfl, rfl⟩ rfl rfl fun A F => ?_
   refine sw_end ?_
   show Code.wp _ _ _ _ _
   refine sw_cond F rfl (fun hc4 => ?_) (fun hc4 => ?_)
   ·skip
    have hs := hc4
    refine sw_reg ?_
    refine sw_move F ⟨rfl, rfl, rfl⟩ rfl rfl fun A F => ?_
    refine sw_move F ⟨rfl, rfl, rfl⟩ rfl rfl fun A F => ?_
    refine sw_move F ⟨rfl, rfl, rfl⟩ rfl rfl fun A F => ?_
    refine sw_at F 3 ⟨rfl, rfl, rfl⟩ rfl rfl (hcl) Tryd.underlying32 (by kernel_rfl) rfl fun A F => ?_
    refine sw_fld F 1 ⟨rfl, rfl, rfl⟩ rfl (by kernel_rfl) rfl rfl fun A F => ?_
    refine sw_setA F M 1 (rx_len ok (upd_len _ _ hc)) ⟨rfl, rfl, rfl⟩ rfl rfl rfl (upd_get hi) (by kernel_rfl) fun w M => ?_
    simp only [List.set_cons_zero, List.set_cons_succ] at M
    refine sw_end ?_
    show Code.wp _ _ _ _ _
    refine sw_reg ?_
    refine sw_add F ⟨rfl, rfl, rfl⟩ rfl rfl (by have := HB.le; omega) rfl fun A F => ?_
    refine sw_move F ⟨rfl, rfl, rfl⟩ rfl rfl fun A F => ?_
    refine sw_end ?_
    replace M := M.drop 0 rfl
    obtain ⟨u, rfl⟩ := Option.isSome_iff_exists.1 hs
    rw [Option.getD_some] at M
    rw [show (⟨i.op, ((u : Nat) : Int), i.b⟩ : Ins) = strI xs c i from (strI_to hj he).symm, upd_step hi] at M
    show _ ∧ _
    refine ⟨⟨c + 1, by omega, F.keep [0, 3, 10, 11, 12] rfl, M⟩, ?_⟩
    rw [(F.keep (N := 45) (L' := [(12, .int .i64 ((c + 1 : Nat) : Int))]) [12] rfl).2.2 12 (.int .i64 ((c + 1 : Nat) : Int)) rfl, hA12]
    simp only [intOf]
    omega
   ·skip
    have hs := hc4
    refine sw_seq ?_
    refine sw_reg ?_
    refine sw_fld F 0 ⟨rfl, rfl, rfl⟩ rfl (by kernel_rfl) rfl rfl fun A F => ?_
    refine sw_cell F M 0 ⟨rfl, rfl, rfl⟩ rfl rfl rfl (by kernel_rfl) rfl fun A F => ?_
    refine sw_eql F ⟨rfl, rfl, rfl⟩ rfl rfl rfl fun A F => ?_
    refine sw_asg F ⟨rfl, rfl, rfl⟩ rfl rfl fun A F => ?_
    refine sw_end ?_
    show Code.wp _ _ _ _ _
    refine sw_cond F rfl (fun hc5 => ?_) (fun hc5 => ?_)
    ·skip
     have h14 : i.op = 14 := by simpa using hc5
     refine sw_reg ?_
     refine sw_move F ⟨rfl, rfl, rfl⟩ rfl rfl fun A F => ?_
     refine sw_move F ⟨rfl, rfl, rfl⟩ rfl rfl fun A F => ?_
     refine sw_move F ⟨rfl, rfl, rfl⟩ rfl rfl fun A F => ?_
     refine sw_at F 3 ⟨rfl, rfl, rfl⟩ rfl rfl (hcl) Tryd.underlying32 (by kernel_rfl) rfl fun A F => ?_
     refine sw_fld F 1 ⟨rfl, rfl, rfl⟩ rfl (by kernel_rfl) rfl rfl fun A F => ?_
     refine sw_setA F M 1 (rx_len ok (upd_len _ _ hc)) ⟨rfl, rfl, rfl⟩ rfl rfl rfl (upd_get hi) (by kernel_rfl) fun w M => ?_
     simp only [List.set_cons_zero, List.set_cons_succ] at M
     refine sw_end ?_
     show Code.wp _ _ _ _ _
     refine sw_reg ?_
     refine sw_add F ⟨rfl, rfl, rfl⟩ rfl rfl (by have := HB.le; omega) rfl fun A F => ?_
     refine sw_move F ⟨rfl, rfl, rfl⟩ rfl rfl fun A F => ?_
     refine sw_end ?_
     replace M := M.drop 0 rfl
     obtain rfl : e = none := by simpa using hs
     rw [show (⟨i.op, ((c : Nat) : Int), i.b⟩ : Ins) = strI xs c i from (strI_self hj he h14).symm, upd_step hi] at M
     show _ ∧ _
     refine ⟨⟨c + 1, by omega, F.keep [0, 3, 10, 11, 12] rfl, M⟩, ?_⟩
     rw [(F.keep (N := 45) (L' := [(12, .int .i64 ((c + 1 : Nat) : Int))]) [12] rfl).2.2 12 (.int .i64 ((c + 1 : Nat) : Int)) rfl, hA12]
     simp only [intOf]
     omega
    ·skip
     have h14 : i.op ≠ 14 := by simpa using hc5
     refine wp_skip ?_
     show Code.wp _ _ _ _ _
     refine sw_reg ?_
     refine sw_add F ⟨rfl, rfl, rfl⟩ rfl rfl (by have := HB.le; omega) rfl fun A F => ?_
     refine sw_move F ⟨rfl, rfl, rfl⟩ rfl rfl fun A F => ?_
     refine sw_end ?_
     replace M := M.drop 0 rfl
     obtain rfl : e = none := by simpa using hs
     rw [upd_keep hi (strI_stay hj he h14)] at M
     show _ ∧ _
     refine ⟨⟨c + 1, by omega, F.keep [0, 3, 10, 11, 12] rfl, M⟩, ?_⟩
     rw [(F.keep (N := 45) (L' := [(12, .int .i64 ((c + 1 : Nat) : Int))]) [12] rfl).2.2 12 (.int .i64 ((c + 1 : Nat) : Int)) rfl, hA12]
     simp only [intOf]
     omega
 ·skip
  have hce : c = xs.length := by have := of_decide_eq_false hc1; omega
  refine wp_exit ?_
  repeat (first | refine then_exit ?_ | refine exit_block ?_ | refine exit_pass rfl ?_)
  show Code.wp _ _ _ _ _
  refine sw_seq ?_
  refine sw_reg ?_
  refine sw_move F ⟨rfl, rfl, rfl⟩ rfl rfl fun A F => ?_
  refine sw_asg F ⟨rfl, rfl, rfl⟩ rfl rfl fun A F => ?_
  refine sw_end ?_
  show Code.wp _ _ _ _ _
  refine wp_ret ?_
  repeat (first | refine then_ret ?_ | refine block_ret ?_)
  rw [hce, upd_all] at M
  exact sw_rettmp F Tryd.results23 rfl ⟨⟨xl, cl, by rw [strt_len], flI_at (M.mem.box (k := 0) rfl).1 (by rw [strt_len]; exact HB.le), (M.mem.box (k := 0) rfl).2, by rw [strt_len]; simpa using ok.fits (by decide), ok.most⟩, M.st⟩
end Go.Proofs.YtemjajljpoaioaaDoor
