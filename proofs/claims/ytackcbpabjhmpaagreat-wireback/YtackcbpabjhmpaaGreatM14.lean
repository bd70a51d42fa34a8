import Derived.Test.YtackcbpabjhmpaaGreatM13
namespace Go.Proofs.YtackcbpabjhmpaaGreat
open Go.RowKit
set_option linter.unusedVariables false
set_option linter.unusedSimpArgs false
theorem Blk.thereAt {w : World} {b : Nat} {cs : Array Value} {t : TypeId} (k : Blk w b cs t) (o n : Nat) (hn : o + n ≤ cs.size) : w.there b o n := fun j hj =>
 ⟨by rw [k.cell]; simp; omega, k.frozen (o + j)⟩
theorem but_cells (b : Nat) : ∀ (vs : List Value) (o : Nat) (w : World), But (fun k => k = b) w (w.setCells b o vs)
 | [], _, w => But.refl _ w
 | v :: r, o, w => (But.set (S := fun k => k = b) w (p := ⟨b, o, none⟩) rfl v).trans (but_cells b r (o + 1) _)
theorem Blk.putCells {b : Nat} {t : TypeId} : ∀ (vs : List Value) (o : Nat) (w : World) (cs : Array Value), Blk w b cs t → Blk (w.setCells b o vs) b (putAt cs o vs) t
 | [], _, _, _, h => h
 | v :: r, o, w, cs, h => Blk.putCells r (o + 1) _ _ (h.set o v)
theorem fld_one : ∀ f : Fld, f.val.oneCell' = true
 | .i _ => rfl
 | .d _ => rfl
 | .b _ => rfl
 | .s _ => rfl
 | .l _ _ _ => rfl
theorem fld_cells : ∀ f : Fld, f.val.cells = #[f.val]
 | .i _ => rfl
 | .d _ => rfl
 | .b _ => rfl
 | .s _ => rfl
 | .l _ _ _ => rfl
theorem flds_one (fs : List Fld) : ∀ u ∈ ((fs.map Fld.val).toArray).toList, u.oneCell' = true := fun u hu => by
 simp at hu
 obtain ⟨f, _, rfl⟩ := hu
 exact fld_one f
def RdC (f : FuncId) (xs : List Value) (wrap : Array Value → Value) (scs : List Sc) : Prop :=
 enters Tryz.prog f = true ∧ (∀ fs : List Fld, fs.length = scs.length → (wrap (fs.map Fld.val).toArray).cells = (fs.map Fld.val).toArray) ∧
 ∀ gb B a E w, Gt w gb B a E → a ≤ B.length → B.length ≤ 1099511627000 → Calls Tryz.prog f (.pointer (some ⟨gb, 0, none⟩) :: xs).toArray w (GotS gb B wrap scs a E w)
theorem one_wrap (fs : List Fld) (h : fs.length = 1) : (hdv (fs.map Fld.val).toArray).cells = (fs.map Fld.val).toArray := by
 cases fs with
 | nil => cases h
 | cons f r =>
  cases r with
  | nil => exact fld_cells f
  | cons g r => simp at h
theorem got_one {α : Type} {gb : Nat} {B : List UInt8} {z : α} {x : Rs α} {mk : α → Value} {E : Int} {w w' : World} {e : Ending} {c : Sc} {a : Nat} (F : α → Fld) (hv : ∀ v, mk v = (F v).val) (hp : ∀ v a' E', Pg B z x E v a' E' → (PgS B [c] (B.drop a) E [F v] a' E' ∧ fitsAll [c] [F v]) ∧ lieAll w.heap.size w' [F v]) (h : GotG gb B z x mk E w e w') : GotS gb B hdv [c] a E w e w' := by
 obtain ⟨v, a', E', rfl, h1, h2, h3⟩ := h
 obtain ⟨⟨q1, q2⟩, q3⟩ := hp v a' E' h3
 exact ⟨[F v], a', E', by rw [hv]; rfl, h1, h2, q3, q1, q2⟩
theorem gnum_c : RdC 44 [] hdv [numC] := ⟨by kernel_rfl, one_wrap, fun gb B a E w k ha hL => (gnum_any gb B a E w k ha hL).mono fun e w' h => got_one Fld.i (fun _ => rfl) (fun v a' E' q => ⟨pg_num (by omega) q, lie_i (by omega) (pg_num (by omega) q).2 _ _⟩) h⟩
theorem gupTo_c (m : Int) (hm : 0 ≤ m ∧ m ≤ 1099511627775) : RdC 122 [.int .i64 m] hdv [.num m] := ⟨by kernel_rfl, one_wrap, fun gb B a E w k ha hL => (gupTo_any gb B a E m w k ha hm hL).mono fun e w' h => got_one Fld.i (fun _ => rfl) (fun v a' E' q => ⟨pg_num hm.1 q, lie_i hm.2 (pg_num hm.1 q).2 _ _⟩) h⟩
theorem gflag_c : RdC 127 [] hdv [.flag] := ⟨by kernel_rfl, one_wrap, fun gb B a E w k ha hL => (gflag_all gb B a E w k ha hL).mono fun e w' h => got_one Fld.b (fun _ => rfl) (fun v a' E' q => ⟨pg_flag q, lie_b _ _ _⟩) h⟩
theorem gdig_c : RdC 128 [] hdv [.dig] := ⟨by kernel_rfl, one_wrap, fun gb B a E w k ha hL => (gdig_all gb B a E w k ha hL).mono fun e w' h => got_one Fld.d (fun _ => rfl) (fun v a' E' q => ⟨pg_dig q, lie_d (pg_dig q).2 _ _⟩) h⟩
theorem gtext_c (m : Int) (hm : 0 ≤ m ∧ m ≤ 100000) : RdC 156 [.int .i64 m] hdv [.text m] := ⟨by kernel_rfl, one_wrap, fun gb B a E w k ha hL => (gtext_all gb B a E m w k ha hm hL).mono fun e w' h => got_one Fld.s (fun _ => rfl) (fun v a' E' q => ⟨pg_text hm.1 q, lie_s _ _ _⟩) h⟩
theorem gbench_c : RdC 63 [] hdv [.list 7 pairSc] := ⟨by kernel_rfl, one_wrap, fun gb B a E w k ha hL => gbench_got gb B a E w k ha hL⟩
def zArr (scs : List Sc) : Array Value := (scs.map Sc.zero).toArray
theorem zArr_size (scs : List Sc) : (zArr scs).size = scs.length := by simp [zArr]
theorem I {o : Oper} {d : Option Nat} {p : Op} {g} (h : (o.dst, o.op, o.guard) = (d, p, g)) : o.dst = d ∧ o.op = p ∧ o.guard = g := by injection h with h1 h; injection h with h2 h3; exact ⟨h1, h2, h3⟩
abbrev Is (o : Oper) (d : Option Nat) (p : Op) : Prop := o.dst = d ∧ o.op = p ∧ o.guard = none
def ptr (b : Nat) : Value := .pointer (some ⟨b, 0, none⟩)
theorem st_part {N sg id i1 i2 i3 f k s ty sv gb vb a off : Nat} {o1 o2 o3 o4 : Oper} {L : List (Nat × Value)} {xs : List Value} {ts : Array TypeId} {wrap : Array Value → Value} {one : List Sc} {B : List UInt8} {E : Int} {w : World} {cs : Array Value} {t : TypeId} {A : Act} {Q : Exit → Act → World → Prop}
  (hC : RdC f xs wrap one) (h1 : Is o1 (some i1) (.move (.tmp sg))) (h2 : Is o2 (some i2) (.call { callee := .value (.func f), args := (.tmp i1 :: xs.map .const).toArray, argTypes := ts })) (h3 : Is o3 (some i3) (.fieldAddr s (.tmp sv) k)) (h4 : Is o4 none (.store ty (.tmp i3) (.tmp i2)))
  (chk : (freeOf [i1, i2, i3] L && decide (i1 < N) && decide (i2 < N) && decide (i3 < N) && decide (i3 ≠ i2)) = true) (hoff : fldOff Tryz.prog s k = some off) (hsz : (Tryz.prog.info? ty).map (·.size) = some one.length) (hcs : off + one.length ≤ cs.size)
  (m0 : (sg, ptr gb) ∈ L) (mv : (sv, ptr vb) ∈ L) (F : Fr N L A) (g : Gt w gb B a E) (ha : a ≤ B.length) (x : Blk w vb cs t) (hne : gb ≠ vb) (hL : B.length ≤ 1099511627000)
  (K : ∀ A' gs a' E' w1, Fr N L A' → Gt w1 gb B a' E' → But (fun k => k = gb) w w1 → lieAll w.heap.size w1 gs → PgS B one (B.drop a) E gs a' E' → fitsAll one gs → Q .normal A' (w1.setCells vb off (gs.map Fld.val))) :
  (Code.region id #[o1, o2, o3, o4] false).wp Tryz.prog Q A w := by
 simp only [Bool.and_eq_true, decide_eq_true_eq] at chk
 obtain ⟨⟨⟨⟨c1, c2⟩, c3⟩, c4⟩, c5⟩ := chk
 have hsz' : A.tmps.size = N := F.1
 refine wp_region_list ?_
 show wpList _ _ _ [o1, o2, o3, o4] _ _
 refine ol_move h1.2.2 (.inl h1.2.1) ?_
 rw [h1.1, F.get m0]
 have F1 : Fr N L (A.put (some i1) (ptr gb)) := F.put c1 (by simp)
 refine ol_call h2.2.2 hC.1 h2.2.1 (vs := (ptr gb :: xs).toArray) ?_ (hC.2.2 gb B a E w g ha hL) ?_
 ·have : ∀ (l : List Value), (l.map Operand.const).map (A.put (some i1) (ptr gb)).eval = l := fun l => by
   rw [List.map_map]; exact (List.map_congr_left (fun x _ => rfl)).trans (List.map_id l)
  rw [List.map_toArray, List.map_cons, this, eval_put_self (by omega)]
 rintro e w1 ⟨gs, a1, E1, rfl, g1, b1, l1, p1, z1⟩
 refine ⟨_, rfl, ?_⟩
 rw [h2.1]
 have hw := hC.2.1 gs (fits_len z1)
 generalize wrap (gs.map Fld.val).toArray = V at hw
 have F2 : Fr N L ((A.put (some i1) (ptr gb)).put (some i2) V) := F1.put c1 (by simp)
 refine ol_fld h3.2.2 h3.2.1 (F2.get mv) hoff ?_
 rw [h3.1]
 have F3 : Fr N L (((A.put (some i1) (ptr gb)).put (some i2) V).put (some i3) (.pointer (some ⟨vb, off, none⟩))) := F2.put c1 (by simp)
 have x1 := b1.blk x (fun q => hne q.symm)
 have hlen := fits_len z1
 refine ol_store h4.2.2 h4.1 h4.2.1 (eval_put_self (by rw [F2.1]; exact c4)) ((eval_put c5).trans (eval_put_self (by rw [F1.1]; exact c3))) ?_ ?_ ?_ ?_
 ·rw [hw]
  exact x1.thereAt _ _ (by simp [hlen]; omega)
 ·rw [hw, hsz]
  simp [hlen]
 ·rw [hw]
  exact flds_one gs
 rw [hw]
 exact wpList_nil (K _ gs a1 E1 w1 F3 g1 b1 l1 p1 z1)
theorem st_field {N sg id i1 i2 i3 f k s ty sv gb vb a : Nat} {o1 o2 o3 o4 : Oper} {L : List (Nat × Value)} {xs : List Value} {ts : Array TypeId} {wrap : Array Value → Value} {done one : List Sc} {fs : List Fld} {B s0 : List UInt8} {E0 E : Int} {w0 w : World} {cs : Array Value} {t : TypeId} {A : Act} {Q : Exit → Act → World → Prop}
  (hC : RdC f xs wrap one) (h1 : Is o1 (some i1) (.move (.tmp sg))) (h2 : Is o2 (some i2) (.call { callee := .value (.func f), args := (.tmp i1 :: xs.map .const).toArray, argTypes := ts })) (h3 : Is o3 (some i3) (.fieldAddr s (.tmp sv) k)) (h4 : Is o4 none (.store ty (.tmp i3) (.tmp i2)))
  (chk : (freeOf [i1, i2, i3] L && decide (i1 < N) && decide (i2 < N) && decide (i3 < N) && decide (i3 ≠ i2)) = true) (hoff : fldOff Tryz.prog s k = some done.length) (hsz : (Tryz.prog.info? ty).map (·.size) = some one.length) (hcs : done.length + one.length ≤ cs.size)
  (m0 : (sg, ptr gb) ∈ L) (mv : (sv, ptr vb) ∈ L) (F : Fr N L A) (S : Sf gb vb B s0 E0 w0 cs t done fs a E w) (hL : B.length ≤ 1099511627000)
  (K : ∀ A' gs a' E' w', Fr N L A' → But (fun k => k = gb ∨ k = vb) w w' → Sf gb vb B s0 E0 w0 cs t (done ++ one) (fs ++ gs) a' E' w' → Q .normal A' w') :
  (Code.region id #[o1, o2, o3, o4] false).wp Tryz.prog Q A w :=
 st_part hC h1 h2 h3 h4 chk hoff hsz (by rw [putAt_size]; exact hcs) m0 mv F S.g S.pg.1 S.x (by have := S.old; have := S.new; omega) hL fun A' gs a' E' w1 F' g1 b1 l1 p1 z1 =>
  K A' gs a' E' _ F' ((b1.mono fun _ q => .inl q).trans ((but_cells vb _ _ _).mono fun _ q => .inr q)) (S.step g1 b1 l1 ⟨p1, z1⟩ (but_cells vb _ _ _) (fun c1 hc => hc.putCells _ _ _ _))
theorem st_open {N id0 id1 i gb a : Nat} {p1 p2 p3 p4 : Oper} {rest : Code} {B : List UInt8} {E : Int} {w : World} {SC : List Sc} {ty : TypeId} {L : List (Nat × Value)} {A : Act} {Q : Exit → Act → World → Prop}
  (h1 : Is p1 (some 2) (.alloc ty)) (h2 : Is p2 (some i) (.build ty #[])) (h3 : Is p3 (some 3) (.alloc ty)) (h4 : Is p4 none (.store ty (.tmp 3) (.tmp i)))
  (chk : (freeOf [2, i, 3] L && decide (3 < N) && decide (i < N) && decide (i ≠ 2) && decide (i ≠ 3)) = true) (hz : (Tryz.prog.info? ty).map (fun i => (i.zero, i.size)) = some (some (.agg (zArr SC)), SC.length)) (hb : Tryz.prog.built ty [] = some (zArr SC))
  (F : Fr N L A) (k : Gt w gb B a E) (ha : a ≤ B.length)
  (K : ∀ A' w', Fr N ((2, ptr w.heap.size) :: (3, ptr (w.heap.size + 1)) :: L) A' → Sf gb (w.heap.size + 1) B (B.drop a) E w (zArr SC) ty [] [] a E w' → Blk w' w.heap.size (zArr SC) ty → rest.wp Tryz.prog Q A' w') :
  (Code.seq (Code.region id0 #[p1] false) (Code.seq (Code.region id1 #[p2, p3, p4] false) rest)).wp Tryz.prog Q A w := by
 simp only [Bool.and_eq_true, decide_eq_true_eq] at chk
 obtain ⟨⟨⟨⟨c1, c2⟩, c3⟩, c4⟩, c5⟩ := chk
 have hsz : (Tryz.prog.info? ty).map (·.size) = some (zArr SC).size := by
  rw [zArr_size]
  cases hq : Tryz.prog.info? ty with
  | none => rw [hq] at hz; cases hz
  | some i => rw [hq] at hz; simp at hz ⊢; exact hz.2
 have hone : ∀ u ∈ (zArr SC).toList, u.oneCell' = true := fun u hu => by
  simp [zArr] at hu
  obtain ⟨c, _, rfl⟩ := hu
  cases c <;> rfl
 refine wp_seq (wp_region_list ?_)
 show wpList _ _ _ [p1] _ _
 refine ol_alloc h1.2.2 h1.2.1 hz ?_
 rw [h1.1]
 refine wpList_nil ?_
 show Code.wp _ _ _ _ _
 have F1 : Fr N L (A.put (some 2) (ptr w.heap.size)) := F.put c1 (by simp)
 have e2 : (A.put (some 2) (ptr w.heap.size)).eval (.tmp 2) = ptr w.heap.size := eval_put_self (by rw [F.1]; omega)
 have k1 : Blk (w.alloc (.cells (zArr SC) ty)) w.heap.size (zArr SC) ty := Blk.new _ _ _
 generalize hA1 : A.put (some 2) (ptr w.heap.size) = A1 at *
 have hA1' : A.put (some 2) (.pointer (some ⟨w.heap.size, 0, none⟩)) = A1 := hA1
 rw [hA1']
 refine wp_seq (wp_region_list ?_)
 show wpList _ _ _ [p2, p3, p4] _ _
 refine ol_build h2.2.2 h2.2.1 (Z := zArr SC) (by simpa using hb) ?_
 rw [h2.1]
 have F2 : Fr N L (A1.put (some i) (.agg (zArr SC))) := F1.put c1 (by simp)
 refine ol_alloc h3.2.2 h3.2.1 hz ?_
 rw [h3.1]
 have hs1 : (w.alloc (.cells (zArr SC) ty)).heap.size = w.heap.size + 1 := World.size_alloc _ _
 show wpList _ _ _ _ (Act.put (A1.put (some i) (.agg (zArr SC))) (some 3) (ptr (w.alloc (.cells (zArr SC) ty)).heap.size)) ((w.alloc (.cells (zArr SC) ty)).alloc (.cells (zArr SC) ty))
 rw [hs1]
 have F3 : Fr N L ((A1.put (some i) (.agg (zArr SC))).put (some 3) (ptr (w.heap.size + 1))) := F2.put c1 (by simp)
 have kv : Blk ((w.alloc (.cells (zArr SC) ty)).alloc (.cells (zArr SC) ty)) (w.heap.size + 1) (zArr SC) ty := by
  have q := Blk.new (w.alloc (.cells (zArr SC) ty)) (zArr SC) ty
  rw [hs1] at q
  exact q
 have kr := k1.alloc (.cells (zArr SC) ty)
 have bA : Below w.heap.size w ((w.alloc (.cells (zArr SC) ty)).alloc (.cells (zArr SC) ty)) := ((Below.refl _ _).alloc (Nat.le_refl _) _).alloc (by rw [hs1]; omega) _
 generalize (w.alloc (.cells (zArr SC) ty)).alloc (.cells (zArr SC) ty) = w2 at *
 refine ol_store h4.2.2 h4.1 h4.2.1 (eval_put_self (by rw [F2.1]; exact c2)) ((eval_put (fun q => c5 q.symm)).trans (eval_put_self (by rw [F1.1]; exact c3))) (kv.thereAt 0 _ (by show 0 + (zArr SC).size ≤ _; omega)) hsz hone ?_
 refine wpList_nil ?_
 show Code.wp _ _ _ _ _
 have kg := k.below bA
 have hlt := Blk.lt k
 have b3 : But (fun k => k = w.heap.size + 1) w2 (w2.setCells (w.heap.size + 1) 0 (zArr SC).toList) := but_cells _ _ _ _
 have kv3 : Blk (w2.setCells (w.heap.size + 1) 0 (zArr SC).toList) (w.heap.size + 1) (zArr SC) ty := by
  have q := kv.putCells (zArr SC).toList 0 _ _
  rw [putAt_all (by simp), Array.toArray_toList] at q
  exact q
 refine K _ _ ⟨F3.1, F3.2.1, fun p hp => ?_⟩ ⟨b3.blk kg (by omega), kv3, hlt, by omega, (But.of_below bA).trans_new b3 (fun k hk q => by omega), by simp [fitsAll], lieAll.nil _ _, PgS.nil E ha⟩ (b3.blk kr (by omega))
 rcases List.mem_cons.1 hp with rfl | hp
 ·exact (eval_put (show 3 ≠ 2 by decide)).trans ((eval_put c4).trans e2)
 rcases List.mem_cons.1 hp with rfl | hp
 ·exact eval_put_self (by rw [F2.1]; exact c2)
 ·exact F3.get hp
def rowT (P : Program) (t : TypeId) : Bool := match P.underlying t with | some d => d.isRow | none => false
theorem rowT_out {P : Program} {t : TypeId} (h : rowT P t = true) : ∃ d, P.underlying t = some d ∧ d.isRow = true := by
 unfold rowT at h
 cases hu : P.underlying t with
 | none => rw [hu] at h; cases h
 | some d => rw [hu] at h; exact ⟨d, rfl, h⟩
theorem st_give {N id i rb vb : Nat} {q1 q2 : Oper} {fn : Func} {w : World} {C cs : Array Value} {ty : TypeId} {L : List (Nat × Value)} {A : Act} {R : Ending → World → Prop}
  (h1 : Is q1 (some i) (.load ty (.tmp 3))) (h2 : Is q2 none (.store ty (.tmp 2) (.tmp i))) (hres : fn.results = #[.cell 2 ty]) (hrt : rowT Tryz.prog ty = true) (hsz : (Tryz.prog.info? ty).map (·.size) = some C.size) (hcs : cs.size = C.size) (hone : ∀ u ∈ C.toList, u.oneCell' = true)
  (chk : (freeOf [i] L && decide (i < N)) = true) (m2 : (2, ptr rb) ∈ L) (m3 : (3, ptr vb) ∈ L) (F : Fr N L A) (kx : Blk w vb C ty) (kr : Blk w rb cs ty) (K : ∀ w2, But (fun k => k = rb) w w2 → R (.returned (.agg C)) w2) :
  (Code.seq (Code.region id #[q1, q2] false) Code.ret).wp Tryz.prog (bodyPost Tryz.prog fn R) A w := by
 simp only [Bool.and_eq_true, decide_eq_true_eq] at chk
 obtain ⟨d, hu, hd⟩ := rowT_out hrt
 refine wp_seq (wp_region_list ?_)
 show wpList _ _ _ [q1, q2] _ _
 refine ol_row h1.2.2 h1.2.1 (F.get m3) (cs := C.toList) kx.range hu hd (by rw [hsz]; simp) ?_
 rw [h1.1, Array.toArray_toList]
 have F1 : Fr N L (A.put (some i) (.agg C)) := F.put chk.1 (by simp)
 refine ol_store h2.2.2 h2.1 h2.2.1 (F1.get m2) (eval_put_self (by rw [F.1]; exact chk.2)) (kr.thereAt 0 _ (by show 0 + C.size ≤ _; omega)) hsz hone ?_
 refine wpList_nil ?_
 show Code.wp _ _ _ _ _
 refine wp_ret ?_
 have kr := kr.putCells C.toList 0 _ _
 rw [putAt_all (by simp [hcs]), Array.toArray_toList] at kr
 have hb := but_cells rb C.toList 0 w
 show bodyPost _ _ _ _ _ (w.setCells rb 0 C.toList)
 generalize w.setCells rb 0 C.toList = w2 at *
 have hld := run_loadVar_mid (P := Tryz.prog) w2 rb 0 ty C.toList d kr.range hu hd (by rw [hsz]; simp)
 rw [Array.toArray_toList] at hld
 have e2 := F1.get m2
 refine bodyPost_ret (v := .agg C) ?_ F1.2.1 (K w2 hb)
 have e3 : (A.put (some i) (Value.agg C)).tmps[2]?.getD undef = .pointer (some ⟨rb, 0, none⟩) := by
  have := e2
  unfold Act.eval at this
  rw [← Array.getD_eq_getD_getElem?]
  exact this
 simp [results, hres, asAddr, e3, hld]
theorem st_close {N id i gb rb vb a a0 : Nat} {q1 q2 : Oper} {fn : Func} {B : List UInt8} {E E0 : Int} {w0 w : World} {SC : List Sc} {cs : Array Value} {ty : TypeId} {fs : List Fld} {L : List (Nat × Value)} {A : Act}
  (h1 : Is q1 (some i) (.load ty (.tmp 3))) (h2 : Is q2 none (.store ty (.tmp 2) (.tmp i))) (hres : fn.results = #[.cell 2 ty]) (hrt : rowT Tryz.prog ty = true) (hsz : (Tryz.prog.info? ty).map (·.size) = some SC.length) (hcs : cs.size = SC.length)
  (chk : (freeOf [i] L && decide (i < N)) = true) (m2 : (2, ptr rb) ∈ L) (m3 : (3, ptr vb) ∈ L) (F : Fr N L A) (S : Sf gb vb B (B.drop a0) E0 w0 cs ty SC fs a E w) (R : Blk w rb cs ty) (hr : gb < rb ∧ w0.heap.size ≤ rb ∧ rb < vb) :
  (Code.seq (Code.region id #[q1, q2] false) Code.ret).wp Tryz.prog (bodyPost Tryz.prog fn (GotS gb B .agg SC a0 E0 w0)) A w := by
 have hlen := fits_len S.fit
 have kx : Blk w vb (fs.map Fld.val).toArray ty := by
  have q := S.x
  rw [putAt_all (by simp [hlen, hcs])] at q
  exact q
 exact st_give h1 h2 hres hrt (by rw [hsz]; simp [hlen]) (by simp [hlen, hcs]) (flds_one fs) chk m2 m3 F kx R fun w2 hb => S.got hr.1 ⟨hr.2.1, by omega⟩ hb
structure Ls (gb vb : Nat) (B : List UInt8) (els : List Sc) (ety : TypeId) (n : Nat) (s : List UInt8) (E1 : Int) (c0 : Array Value) (t : TypeId) (off : Nat) (u : World) (v : Value) (es : List (List Fld)) (a : Nat) (E : Int) (w : World) : Prop where
 g : Gt w gb B a E
 x : Blk w vb (putAt c0 off [v]) t
 but : But (fun k => k = gb ∨ k = vb) u w
 row : RowG u.heap.size ety els.length v es w
 fit : ∀ d ∈ es, fitsAll els d
 pg : PgL B els n s E1 es a E
theorem putAt_fold : ∀ (l : List Value) (k : Nat) (cells : Array Value), (l.zipIdx k).foldl (fun cs (x : Value × Nat) => cs.setIfInBounds (0 + x.2) x.1) cells = putAt cells k l
 | [], k, cells => rfl
 | v :: r, k, cells => by
  rw [List.zipIdx_cons, List.foldl_cons, putAt_fold r (k + 1)]
  rw [Nat.zero_add]
  rfl
theorem fold_all (V cells : Array Value) (h : V.size = cells.size) : V.zipIdx.foldl (fun cs (x : Value × Nat) => cs.setIfInBounds (0 + x.2) x.1) cells = V := by
 rw [← Array.foldl_toList, Array.toList_zipIdx, putAt_fold, putAt_all (by simpa using h), Array.toArray_toList]
theorem run_slice1 {P : Program} {w : World} {t e : TypeId} {z : Value} {n : Nat} (V : Value) (hu : P.underlying t = some (.slice e)) (hi : (P.info? e).map (fun i => (i.zero, i.size, decide (i.bytes ≤ 1000))) = some (some z, n, true)) (hzs : z.cells.size = n) (hn : 0 < n ∧ n ≤ 1000) (hV : V.cells.size = n) :
  (Instr.buildSlice t 1 #[(0, V)]).run P w = .ok (.slice (some ⟨w.heap.size, 0, none⟩) 1 1) (w.alloc (.cells V.cells e)) := by
 obtain ⟨i, hi1, hi2, hi3, hi4⟩ := info_parts3 hi
 have hf : Instr.fill (fun j => some (j * n, n)) ((Array.range (1 * n)).map (z.cells[· % z.cells.size]!)) [(0, V)] = some V.cells := by
  have hsz : ((Array.range (1 * n)).map (z.cells[· % z.cells.size]!)).size = n := by simp
  generalize (Array.range (1 * n)).map (z.cells[· % z.cells.size]!) = cells at hsz
  unfold Instr.fill
  simp only [Nat.zero_mul]
  rw [if_neg (by simp [hV, hsz])]
  unfold Instr.fill
  rw [fold_all V.cells cells (by omega)]
 have h2 : ¬ (1 * n > 2 ^ 24) := by omega
 have h3 : ¬ (1 * n = 0) := by omega
 simp only [Instr.buildSlice, Sem.run_bind, run_underlying hu, Result.andThen_ok, sizeOf, typeInfo, zeroValue, run_program, hi1, hi2, hi3, Sem.run_pure, if_neg h2, if_neg h3, hf]
 simp [newRow]
theorem ol_slice1 {P : Program} {ops : Array Oper} {Q : Exit → Act → World → Prop} {a : Act} {w : World} {rest : List Oper} {o : Oper} (hg : o.guard = none) {t e : TypeId} {z : Value} {n : Nat} {x : Operand} (ho : o.op = .buildSlice t 1 #[(0, x)]) {V : Value} (hx : a.eval x = V) (hu : P.underlying t = some (.slice e)) (hi : (P.info? e).map (fun i => (i.zero, i.size, decide (i.bytes ≤ 1000))) = some (some z, n, true)) (hzs : z.cells.size = n) (hn : 0 < n ∧ n ≤ 1000) (hV : V.cells.size = n)
  (h : wpList P ops Q rest (a.put o.dst (.slice (some ⟨w.heap.size, 0, none⟩) 1 1)) (w.alloc (.cells V.cells e))) : wpList P ops Q (o :: rest) a w :=
 ol_val hg (by unfold execOp; rw [ho]; simp only [List.map_toArray, List.map_cons, List.map_nil, hx]; rw [Sem.run_bind, run_slice1 V hu hi hzs hn hV]; rfl) h
theorem st_app {N id i1 i2 i3 i4 i5 i6 k s sv gb vb a a' n off : Nat} {lty ety t : TypeId} {o1 o2 o3 o4 o5 o6 o7 : Oper} {L : List (Nat × Value)} {els : List Sc} {es : List (List Fld)} {gs : List Fld} {B s0 : List UInt8} {E1 E E' : Int} {u w w2 : World} {c0 : Array Value} {v V z : Value} {A : Act} {Q : Exit → Act → World → Prop}
  (h1 : Is o1 (some i1) (.fieldAddr s (.tmp sv) k)) (h2 : Is o2 (some i2) (.load lty (.tmp i1))) (h3 : o3.dst = some i3 ∧ o3.guard = none) (h4 : Is o4 (some i4) (.buildSlice lty 1 #[(0, .tmp i3)])) (h5 : Is o5 (some i5) (.call { callee := .builtin .append, args := #[.tmp i2, .tmp i4], argTypes := #[lty, lty] })) (h6 : Is o6 (some i6) (.fieldAddr s (.tmp sv) k)) (h7 : Is o7 none (.store lty (.tmp i6) (.tmp i5))) (ht5 : o5.type = lty)
  (chk : (freeOf [i1, i2, i3, i4, i5, i6] L && decide (i1 < N) && decide (i2 < N) && decide (i3 < N) && decide (i4 < N) && decide (i5 < N) && decide (i6 < N) && decide (i3 ≠ i2) && decide (i4 ≠ i2) && decide (i6 ≠ i5)) = true)
  (hoff : fldOff Tryz.prog s k = some off) (hu : Tryz.prog.underlying lty = some (.slice ety)) (hi : (Tryz.prog.info? ety).map (fun i => (i.zero, i.size, decide (i.bytes ≤ 1000))) = some (some z, els.length, true)) (hzs : z.cells.size = els.length) (hels : 0 < els.length ∧ els.length ≤ 1000) (hls : (Tryz.prog.info? lty).map (·.size) = some 1)
  (mv : (sv, ptr vb) ∈ L) (F : Fr N L A) (h3r : ∀ A', Fr N L A' → (execOp A'.eval o3).run Tryz.prog w2 = .ok (.value V) w2) (hV : V.cells = (gs.map Fld.val).toArray)
  (H : Ls gb vb B els ety n s0 E1 c0 t off u v es a E w) (hlt : es.length < n) (hn : n ≤ 1000000) (hgb : gb < u.heap.size) (hvb : vb < u.heap.size) (hgv : gb ≠ vb) (hc0 : off < c0.size)
  (g2 : Gt w2 gb B a' E') (b2 : But (fun k => k = gb) w w2) (l2 : lieAll w.heap.size w2 gs) (p2 : PgS B els (B.drop a) E gs a' E' ∧ fitsAll els gs)
  (K : ∀ A' v' w', Fr N L A' → Ls gb vb B els ety n s0 E1 c0 t off u v' (es ++ [gs]) a' E' w' → Q .normal A' w') :
  (Code.region id #[o1, o2, o3, o4, o5, o6, o7] false).wp Tryz.prog Q A w2 := by
 simp only [Bool.and_eq_true, decide_eq_true_eq] at chk
 obtain ⟨⟨⟨⟨⟨⟨⟨⟨⟨c1, d1⟩, d2⟩, d3⟩, d4⟩, d5⟩, d6⟩, e1⟩, e2⟩, e3⟩ := chk
 have hlen := fits_len p2.2
 have x2 : Blk w2 vb (putAt c0 off [v]) t := b2.blk H.x (fun q => hgv q.symm)
 have cv : w2.cell? ⟨vb, off, none⟩ = some v := by
  rw [x2.cell]
  have := putAt_in [v] c0 off 0 (by simp; omega) (by simp)
  exact this
 have huw := H.but.size
 have r2 : RowG u.heap.size ety els.length v es w2 := H.row.hi (Hi.of_but b2 (fun k q => by omega))
 obtain ⟨ii, ii1, ii2, ii3, ii4⟩ := info_parts3 hi
 obtain ⟨v', w3, hrun, hown, hgrow, hat⟩ := app_one w2 u.heap.size lty ety z els.length ii.bytes hu (by rw [ii1, Option.map_some, ii2, ii3]) hzs hels.1 (of_decide_eq_true ii4) v es.length (flatV es) r2.own (by omega) (gs.map Fld.val).toArray (by simp [hlen]) (flds_one gs) (Nat.le_trans huw b2.size)
 refine wp_region_list ?_
 show wpList _ _ _ [o1, o2, o3, o4, o5, o6, o7] _ _
 refine ol_fld h1.2.2 h1.2.1 (F.get mv) hoff ?_
 rw [h1.1]
 have F1 : Fr N L (A.put (some i1) (.pointer (some ⟨vb, off, none⟩))) := F.put c1 (by simp)
 refine ol_cell h2.2.2 h2.2.1 (eval_put_self (by rw [F.1]; exact d1)) cv hu rfl ?_
 rw [h2.1]
 generalize A.put (some i1) (.pointer (some ⟨vb, off, none⟩)) = A1 at *
 have F2 : Fr N L (A1.put (some i2) v) := F1.put c1 (by simp)
 have q2 : (A1.put (some i2) v).eval (.tmp i2) = v := eval_put_self (by rw [F1.1]; exact d2)
 generalize A1.put (some i2) v = A2 at *
 refine ol_val h3.2 (h3r A2 F2) ?_
 rw [h3.1]
 have F3 : Fr N L (A2.put (some i3) V) := F2.put c1 (by simp)
 have q3 : (A2.put (some i3) V).eval (.tmp i2) = v := (eval_put e1).trans q2
 have q3' : (A2.put (some i3) V).eval (.tmp i3) = V := eval_put_self (by rw [F2.1]; exact d3)
 generalize A2.put (some i3) V = A3 at *
 refine ol_slice1 h4.2.2 h4.2.1 q3' hu hi hzs hels (by rw [hV]; simp [hlen]) ?_
 rw [h4.1, hV]
 have F4 : Fr N L (A3.put (some i4) (.slice (some ⟨w2.heap.size, 0, none⟩) 1 1)) := F3.put c1 (by simp)
 have q4 : (A3.put (some i4) (.slice (some ⟨w2.heap.size, 0, none⟩) 1 1)).eval (.tmp i2) = v := (eval_put e2).trans q3
 have q4' : (A3.put (some i4) (.slice (some ⟨w2.heap.size, 0, none⟩) 1 1)).eval (.tmp i4) = .slice (some ⟨w2.heap.size, 0, none⟩) 1 1 := eval_put_self (by rw [F3.1]; exact d4)
 generalize A3.put (some i4) (.slice (some ⟨w2.heap.size, 0, none⟩) 1 1) = A4 at *
 refine wpList_append_run h5.2.2 _ _ lty h5.2.1 v _ v' w3 q4 q4' (by rw [ht5]; exact hrun) ?_
 rw [h5.1]
 have F5 : Fr N L (A4.put (some i5) v') := F4.put c1 (by simp)
 have q5 : (A4.put (some i5) v').eval (.tmp i5) = v' := eval_put_self (by rw [F4.1]; exact d5)
 generalize A4.put (some i5) v' = A5 at *
 refine ol_fld h6.2.2 h6.2.1 (F5.get mv) hoff ?_
 rw [h6.1]
 have F6 : Fr N L (A5.put (some i6) (.pointer (some ⟨vb, off, none⟩))) := F5.put c1 (by simp)
 have q6 : (A5.put (some i6) (.pointer (some ⟨vb, off, none⟩))).eval (.tmp i5) = v' := (eval_put e3).trans q5
 have q6' : (A5.put (some i6) (.pointer (some ⟨vb, off, none⟩))).eval (.tmp i6) = .pointer (some ⟨vb, off, none⟩) := eval_put_self (by rw [F5.1]; exact d6)
 generalize A5.put (some i6) (.pointer (some ⟨vb, off, none⟩)) = A6 at *
 have hrow := (RowG.blk r2)
 have bA : Below w2.heap.size w2 (w2.alloc (.cells (gs.map Fld.val).toArray ety)) := (Below.refl _ _).alloc (Nat.le_refl _) _
 have Bg : But (fun k => v.ownBlock = some k) (w2.alloc (.cells (gs.map Fld.val).toArray ety)) w3 := ⟨hgrow.os, hgrow.tape, hgrow.output, hgrow.size, fun k hk q => hgrow.block k hk (fun e => q e.symm)⟩
 have x3 : Blk w3 vb (putAt c0 off [v]) t := Bg.blk (x2.alloc _) (fun q => by have := (hrow _ q).1; omega)
 obtain ⟨la, lc, hv'⟩ := slice_shape hown
 have hcells : v'.cells = #[v'] := by rw [hv']; rfl
 refine ol_store h7.2.2 h7.1 h7.2.1 q6' q6 ?_ ?_ ?_ ?_
 ·rw [hcells]
  exact x3.thereAt _ _ (by rw [putAt_size]; simp; omega)
 ·rw [hcells, hls]; rfl
 ·rw [hcells, hv']
  intro q hq
  simp at hq
  subst hq
  rfl
 rw [hcells]
 have l3 : lieAll w2.heap.size (w2.alloc (.cells (gs.map Fld.val).toArray ety)) gs → True := fun _ => trivial
 have hr3 : RowG u.heap.size ety els.length v' (es ++ [gs]) w3 := (r2.hi (Hi.of_below bA)).add (l2.hi (Hi.of_below bA)) (Nat.le_trans huw (Nat.le_refl _)) (fun b q => (H.row.blk b q).2) hlen hown hgrow hat
 have b4 := but_cells vb [v'] off w3
 have x4 := x3.putCells [v'] off _ _
 have hpp : putAt (putAt c0 off [v]) off [v'] = putAt c0 off [v'] := by
  simp only [putAt]
  apply Array.ext_getElem?
  intro j
  simp only [Array.getElem?_setIfInBounds, Array.size_setIfInBounds]
  split
  ·rfl
  ·rfl
 rw [hpp] at x4
 have g3 : Gt w3 gb B a' E' := Bg.blk (Blk.alloc g2 _) (fun q => by have := (hrow _ q).1; omega)
 refine wpList_nil (K _ v' _ F6 ⟨b4.blk g3 hgv, x4, ?_, hr3.hi (Hi.of_but b4 (fun k q => by omega)), fun d hd => ?_, H.pg.step hlt p2.1⟩)
 ·refine ((H.but.trans ((b2.mono fun _ q => .inl q).trans (But.of_below bA))).trans_new Bg (fun k hk q => ?_)).trans (b4.mono fun _ q => .inr q)
  have := (hrow _ q).1
  omega
 ·rcases List.mem_append.1 hd with hd | hd
  ·exact H.fit d hd
  ·rw [List.mem_singleton.1 hd]
   exact p2.2
end Go.Proofs.YtackcbpabjhmpaaGreat
