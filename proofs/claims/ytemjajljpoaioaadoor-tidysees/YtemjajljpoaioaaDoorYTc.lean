import Derived.Test.YtemjajljpoaioaaDoorYTb
namespace Go.Proofs.YtemjajljpoaioaaDoor
open Go.RowKit
set_option linter.unusedVariables false
set_option linter.unusedSimpArgs false
set_option maxRecDepth 20000
set_option maxHeartbeats 8000000
theorem pl_set {plist : List Nat} {n c k : Nat} (h : plist.length = c) (hc : c < n) : (plist ++ List.replicate (n - c) 0).set c k = (plist ++ [k]) ++ List.replicate (n - (c + 1)) 0 := by
 rw [List.set_append_right _ _ (by omega), h, Nat.sub_self, show n - c = (n - (c + 1)) + 1 by omega, List.replicate_succ, List.set_cons_zero, List.append_assoc]
 rfl
theorem pGo_next {jt : List Bool} {xs pb : List Ins} {ld : List Bool} {pl : List Nat} {c : Nat} {i : Ins} (hi : xs[c]? = some i) : pGo jt (xs.drop c) c pb ld pl = pGo jt (xs.drop (c + 1)) (c + 1) (pbN c pb (ldN jt c pb ld) i) (ldN jt c pb ld) (pl ++ [pb.length]) := by
 have hd : xs.drop c = i :: xs.drop (c + 1) := by
  obtain ⟨hl, he⟩ := List.getElem?_eq_some_iff.1 hi
  rw [List.drop_eq_getElem_cons hl, he]
 rw [hd]
 rfl
theorem takeP_mem {pb : List Ins} {ld : List Bool} {i x : Ins} (hS : SmI pb) (h : x ∈ takeP pb ld i) : x ∈ pb ∨ x = i ∨ (x.op = 1 ∧ 0 ≤ x.a ∧ x.a ≤ mx) ∨ (x.op = 14 ∧ x.a = i.a ∧ i.op = 15) := by
 have tk : ∀ {m : Nat}, x ∈ pb.take m → x ∈ pb := fun {m} q => List.mem_of_mem_take q
 unfold takeP at h
 split at h
 ·exact .inl (tk h)
 split at h
 ·rcases List.mem_append.1 h with q | q
  ·exact .inl (tk q)
  ·rw [List.mem_singleton.1 q]
   exact .inr (.inr (.inl ⟨rfl, tr_in _⟩))
 split at h
 ·rename_i c3
  split at h
  ·rcases List.mem_append.1 h with q | q
   ·exact .inl (tk q)
   ·rw [List.mem_singleton.1 q]
    exact .inr (.inr (.inr ⟨rfl, rfl, c3.1⟩))
  ·exact .inl (tk h)
 unfold opP at h
 have put : x ∈ pb ++ [i] → x ∈ pb ∨ x = i := fun q => (List.mem_append.1 q).elim .inl fun q => .inr (List.mem_singleton.1 q)
 split at h
 ·rename_i n hn
  split at h
  ·rcases List.mem_append.1 h with q | q
   ·exact .inl (tk q)
   ·rw [List.mem_singleton.1 q]
    exact .inr (.inr (.inl ⟨rfl, two_in (lastP_sm hS _ _) (lastP_sm hS _ _) hn⟩))
  ·rcases put h with q | q
   ·exact .inl q
   ·exact .inr (.inl q)
 ·rcases put h with q | q
  ·exact .inl q
  ·exact .inr (.inl q)
theorem pb_ok {n : Nat} {pb : List Ins} {ld : List Bool} {i : Ins} (hS : SmI pb) (hJ : ∀ x ∈ pb, isJ x = true → 0 ≤ x.a ∧ x.a.toNat < n) (h1 : 0 ≤ i.a ∧ i.a ≤ mx) (h2 : isJ i = true → 0 ≤ i.a ∧ i.a.toNat < n) : SmI (takeP pb ld i) ∧ ∀ x ∈ takeP pb ld i, isJ x = true → 0 ≤ x.a ∧ x.a.toNat < n := by
 refine ⟨fun x hx => ?_, fun x hx hj => ?_⟩ <;> rcases takeP_mem hS hx with q | rfl | ⟨q, q2⟩ | ⟨q, q2, q3⟩
 ·exact hS x q
 ·exact h1
 ·exact q2
 ·rw [q2]; exact h1
 ·exact hJ x q hj
 ·exact h2 hj
 ·rcases isJ_iff.1 hj with z | z <;> rw [q] at z <;> cases z
 ·rw [q2]; exact h2 (isJ_iff.2 (.inr q3))
set_option maxRecDepth 20000 in
set_option maxHeartbeats 8000000 in
theorem tprs_m {np nn : Nat} {lo : Int} {ps : List Pc} {h : Nat → Int} {w0 : World} {rb ro lc : Nat} {xs : List Ins} (HB : Body w0 rb ro xs) (X : PX np nn lo ps xs h) (hR : ∀ i ∈ xs, RgI i) (hS : SmI xs) : Calls Tryd.prog 21 ([.slice (some ⟨rb, ro, none⟩) xs.length lc] : List Value).toArray w0 fun e w' => BodyQ w0 w' e (prsd xs) ∧ Below w0.heap.size w0 w' := by
 have M := bx_begin (w0 := w0) (w := w0) (Below.refl _ _)
 have L := X.fb.lds
 refine sw_fn Tryd.func21 rfl 72 Tryd.ntmps21 rfl fun A F => ?_
 refine sw_seq ?_
 refine sw_reg ?_
 refine sw_asg F ⟨rfl, rfl, rfl⟩ rfl rfl fun A F => ?_
 refine sw_end ?_
 show Code.wp _ _ _ _ _
 refine sw_seq ?_
 refine sw_reg ?_
 refine sw_move F ⟨rfl, rfl, rfl⟩ rfl rfl fun A F => ?_
 refine sw_callR (by kernel_rfl) (tto_m (lc := lc) (HB.bx M.st) L) F ⟨rfl, rfl, rfl⟩ rfl rfl ?_
 rintro _ w ⟨⟨xj, rfl, hg, hk⟩, hb⟩
 refine ⟨_, rfl, fun A F => ?_⟩
 replace M := M.newbox hb hg hk
 clear hb hg hk
 refine sw_asg F ⟨rfl, rfl, rfl⟩ rfl rfl fun A F => ?_
 refine sw_end ?_
 show Code.wp _ _ _ _ _
 refine sw_seq ?_
 refine sw_reg ?_
 refine sw_move F ⟨rfl, rfl, rfl⟩ rfl rfl fun A F => ?_
 refine sw_len F ⟨rfl, rfl, rfl⟩ rfl Tryd.underlying32 rfl fun A F => ?_
 refine sw_add F ⟨rfl, rfl, rfl⟩ rfl rfl (by have := HB.le; omega) rfl fun A F => ?_
 refine sw_makebools F M (n := xs.length + 1) ⟨rfl, rfl, rfl⟩ rfl rfl (by have := HB.le; omega) rfl fun x1 A w F M => ?_
 refine sw_build F _ [.slice none 0 0, .slice (some ⟨x1, 0, none⟩) (xs.length + 1) (xs.length + 1)] ⟨rfl, rfl, rfl⟩ rfl (by kernel_rfl) rfl fun A F => ?_
 replace M := M.nilrow 31 3
 refine sw_box F M [.slice none 0 0, .slice (some ⟨x1, 0, none⟩) (xs.length + 1) (xs.length + 1)] ⟨rfl, rfl, rfl⟩ rfl rfl rfl fun b A w F M => ?_
 refine sw_asg F ⟨rfl, rfl, rfl⟩ rfl rfl fun A F => ?_
 refine sw_end ?_
 show Code.wp _ _ _ _ _
 refine sw_seq ?_
 refine sw_reg ?_
 refine sw_move F ⟨rfl, rfl, rfl⟩ rfl rfl fun A F => ?_
 refine sw_len F ⟨rfl, rfl, rfl⟩ rfl Tryd.underlying32 rfl fun A F => ?_
 refine sw_makeints F M (n := xs.length) ⟨rfl, rfl, rfl⟩ rfl rfl (by have := HB.le; omega) rfl fun x2 A w F M => ?_
 refine sw_asg F ⟨rfl, rfl, rfl⟩ rfl rfl fun A F => ?_
 refine sw_end ?_
 show Code.wp _ _ _ _ _
 refine sw_seq ?_
 refine sw_seq ?_
 refine sw_reg ?_
 refine sw_move F ⟨rfl, rfl, rfl⟩ rfl rfl fun A F => ?_
 refine sw_len F ⟨rfl, rfl, rfl⟩ rfl Tryd.underlying32 rfl fun A F => ?_
 refine sw_move F ⟨rfl, rfl, rfl⟩ rfl rfl fun A F => ?_
 refine sw_end ?_
 show Code.wp _ _ _ _ _
 refine wp_block ?_
 skip
 have e0 : List.replicate xs.length 0 = ([] : List Nat) ++ List.replicate (xs.length - 0) 0 := by simp
 rw [e0] at M
 have e1 : xs.length + 1 = (List.replicate (xs.length + 1) false).length := by simp
 have M0 : Mm (Bx w0) (fun _ => False) w0 [.box x2 (nats (([] : List Nat) ++ List.replicate (xs.length - 0) 0)) 3, .box b [.slice none ([] : List Ins).length 0, .slice (some ⟨x1, 0, none⟩) (List.replicate (xs.length + 1) false).length (List.replicate (xs.length + 1) false).length] 57, .row (.slice none ([] : List Ins).length 0) 31 3 (([] : List Ins).map Ins.flds), .box x1 ((List.replicate (xs.length + 1) false).map Value.bool) 4, .box xj ((jmpd xs).map Value.bool) 4] () w := by rw [← e1]; exact M
 clear M e0 e1
 have M := M0
 clear M0
 revert F M
 generalize x1 = y, x2 = pl
 intro F M
 refine wp_loop (fun A w => ∃ c : Nat, ∃ pb : (List Ins), ∃ ld : (List Bool), ∃ plist : (List Nat), ∃ la : (Option Addr), ∃ lr : Nat, (c ≤ xs.length) ∧ (plist.length = c) ∧ (pb.length ≤ c) ∧ (ld.length = xs.length + 1) ∧ (SmI pb) ∧ (∀ x ∈ pb, isJ x = true → 0 ≤ x.a ∧ x.a.toNat < xs.length) ∧ (pGo (jmpd xs) xs 0 [] (List.replicate (xs.length + 1) false) [] = pGo (jmpd xs) (xs.drop c) c pb ld plist) ∧ Fm 72 [(0, .slice (some ⟨rb, ro, none⟩) xs.length lc), (3, .slice (some ⟨xj, 0, none⟩) xs.length xs.length), (4, ptr b), (5, .slice (some ⟨pl, 0, none⟩) xs.length xs.length), (19, .slice (some ⟨rb, ro, none⟩) xs.length lc), (20, .int .i64 ((xs.length : Nat) : Int)), (21, .int .i64 ((c : Nat) : Int))] A ∧ Mm (Bx w0) (fun _ => False) w0 [.box pl (nats (plist ++ List.replicate (xs.length - c) 0)) 3, .box b [.slice la pb.length lr, .slice (some ⟨y, 0, none⟩) ld.length ld.length] 57, .row (.slice la pb.length lr) 31 3 (pb.map Ins.flds), .box y (ld.map Value.bool) 4, .box xj ((jmpd xs).map Value.bool) 4] () w) (fun A _ => xs.length - (intOf (A.eval (.tmp 21))).toNat) ?_ ?_
 ·exact ⟨0, [], _, [], none, 0, (Nat.zero_le _), (rfl), (Nat.le_refl _), (by simp), (fun x hx => by cases hx), (fun x hx => by cases hx), (rfl), F.keep [0, 3, 4, 5, 19, 20, 21] rfl, M⟩
 repeat clear F
 repeat clear M
 rintro A w ⟨c, pb, ld, plist, la, lr, hc, hpl, hpb, hld, hsm, hJ, heq, F, M⟩
 have hA21 : A.eval (.tmp 21) = .int .i64 ((c : Nat) : Int) := F.2.2 21 _ rfl
 refine sw_seq ?_
 refine sw_reg ?_
 refine sw_lss F ⟨rfl, rfl, rfl⟩ rfl rfl rfl fun A F => ?_
 refine sw_end ?_
 show Code.wp _ _ _ _ _
 refine sw_seq ?_
 refine sw_cond F rfl (fun hc3 => ?_) (fun hc3 => ?_)
 ·skip
  have hcl : c < xs.length := by have := of_decide_eq_true hc3; omega
  refine wp_skip ?_
  show Code.wp _ _ _ _ _
  refine sw_seq ?_
  refine wp_block ?_
  refine sw_seq ?_
  refine sw_reg ?_
  refine sw_move F ⟨rfl, rfl, rfl⟩ rfl rfl fun A F => ?_
  refine sw_at F 3 ⟨rfl, rfl, rfl⟩ rfl rfl (hcl) Tryd.underlying32 (by kernel_rfl) rfl fun A F => ?_
  obtain ⟨i, hi⟩ : ∃ i, xs[c]? = some i := ⟨_, List.getElem?_eq_getElem hcl⟩
  refine sw_rng F (cs := [.int .i64 i.op, .int .i64 i.a, .int .i64 i.b]) ((HB.bx M.st).at_ _ _ (hi)) ⟨rfl, rfl, rfl⟩ rfl (by kernel_rfl) (by kernel_rfl) rfl fun A F => ?_
  refine sw_alloc F M [.int .i64 0, .int .i64 0, .int .i64 0] ⟨rfl, rfl, rfl⟩ (by kernel_rfl) rfl fun x4 A w F M => ?_
  refine sw_asg F ⟨rfl, rfl, rfl⟩ rfl rfl fun A F => ?_
  refine sw_setAll F M 0 ⟨rfl, rfl, rfl⟩ rfl rfl rfl (by kernel_rfl) rfl rfl fun w M => ?_
  simp only [List.set_cons_zero, List.set_cons_succ] at M
  refine sw_end ?_
  show Code.wp _ _ _ _ _
  refine sw_seq ?_
  refine sw_reg ?_
  refine sw_move F ⟨rfl, rfl, rfl⟩ rfl rfl fun A F => ?_
  refine sw_move F ⟨rfl, rfl, rfl⟩ rfl rfl fun A F => ?_
  refine sw_move F ⟨rfl, rfl, rfl⟩ rfl rfl fun A F => ?_
  refine sw_nil F ⟨rfl, rfl, rfl⟩ rfl rfl fun A F => ?_
  refine sw_fld F 0 ⟨rfl, rfl, rfl⟩ rfl (by kernel_rfl) rfl rfl fun A F => ?_
  refine sw_cell F M 2 ⟨rfl, rfl, rfl⟩ rfl rfl rfl (by kernel_rfl) rfl fun A F => ?_
  refine sw_len F ⟨rfl, rfl, rfl⟩ rfl Tryd.underlying32 rfl fun A F => ?_
  refine sw_at F 1 ⟨rfl, rfl, rfl⟩ rfl rfl (hcl) Tryd.underlying37 (by kernel_rfl) rfl fun A F => ?_
  refine sw_iset F M 1 ⟨rfl, rfl, rfl⟩ rfl rfl rfl (by kernel_rfl) (by simp; omega) fun w M => ?_
  simp only [List.set_cons_zero, List.set_cons_succ] at M
  have hset : (plist ++ List.replicate (xs.length - c) 0).set (0 + c * 1) pb.length = (plist ++ [pb.length]) ++ List.replicate (xs.length - (c + 1)) 0 := by
   rw [show 0 + c * 1 = c by omega]
   exact pl_set hpl hcl
  rw [hset] at M
  clear hset
  refine sw_end ?_
  show Code.wp _ _ _ _ _
  refine sw_seq ?_
  refine sw_seq ?_
  refine sw_reg ?_
  refine sw_move F ⟨rfl, rfl, rfl⟩ rfl rfl fun A F => ?_
  refine sw_move F ⟨rfl, rfl, rfl⟩ rfl rfl fun A F => ?_
  refine sw_at F 1 ⟨rfl, rfl, rfl⟩ rfl rfl (hcl) Tryd.underlying47 (by kernel_rfl) rfl fun A F => ?_
  obtain ⟨z, hz⟩ : ∃ z, (jmpd xs)[c]? = some z := ⟨_, List.getElem?_eq_getElem (by rw [jmpd_len]; exact hcl)⟩
  refine sw_bget F M 5 ⟨rfl, rfl, rfl⟩ rfl rfl (by rw [Nat.zero_add, Nat.mul_one]; exact hz) (by kernel_rfl) rfl fun A F => ?_
  refine sw_end ?_
  show Code.wp _ _ _ _ _
  refine sw_cond F rfl (fun hc5 => ?_) (fun hc5 => ?_)
  ·skip
   subst hc5
   refine wp_region_late (fun w' => w'.cell? ⟨b, 0, none⟩ = some (.slice la pb.length lr) ∧ w'.cell? ⟨b, 1, none⟩ = some (.slice (some ⟨y, 0, none⟩) ld.length ld.length)) 10 (by kernel_rfl) ?_
   show wpAnyM _ _ _ _ _ _ _ _ _ w.drew
   replace M := M.drew
   have hS : w.drew.cell? ⟨b, 0, none⟩ = some (.slice la pb.length lr) ∧ w.drew.cell? ⟨b, 1, none⟩ = some (.slice (some ⟨y, 0, none⟩) ld.length ld.length) := ⟨M.cell 2 rfl rfl, M.cell 2 rfl rfl⟩
   refine sm_move F 0 rfl ⟨rfl, rfl, rfl⟩ rfl (by kernel_rfl) (by kernel_rfl) (by kernel_rfl) rfl (fun _ _ _ h => h) rfl hS fun A F => ?_
   refine sm_move F 4 rfl ⟨rfl, rfl, rfl⟩ rfl (by kernel_rfl) (by kernel_rfl) (by kernel_rfl) rfl (fun _ _ _ h => h) rfl hS fun A F => ?_
   refine sm_nil F 1 rfl ⟨rfl, rfl, rfl⟩ rfl (by kernel_rfl) (by kernel_rfl) (by kernel_rfl) rfl (fun _ _ _ h => h) rfl hS fun A F => ?_
   refine sm_nil F 5 rfl ⟨rfl, rfl, rfl⟩ rfl (by kernel_rfl) (by kernel_rfl) (by kernel_rfl) rfl (fun _ _ _ h => h) rfl hS fun A F => ?_
   refine sm_fld F 2 1 rfl ⟨rfl, rfl, rfl⟩ rfl (by kernel_rfl) rfl (by kernel_rfl) (by kernel_rfl) (by kernel_rfl) rfl (fun _ _ _ h => h) rfl hS fun A F => ?_
   refine sm_fld F 6 0 rfl ⟨rfl, rfl, rfl⟩ rfl (by kernel_rfl) rfl (by kernel_rfl) (by kernel_rfl) (by kernel_rfl) rfl (fun _ _ _ h => h) rfl hS fun A F => ?_
   refine sm_cell F 3 rfl ⟨rfl, rfl, rfl⟩ rfl (by kernel_rfl) (fun _ h => h.2) (by kernel_rfl) (by kernel_rfl) (by kernel_rfl) (by kernel_rfl) rfl (fun _ _ _ h => h) rfl hS fun A F => ?_
   refine sm_cell F 7 rfl ⟨rfl, rfl, rfl⟩ rfl (by kernel_rfl) (fun _ h => h.1) (by kernel_rfl) (by kernel_rfl) (by kernel_rfl) (by kernel_rfl) rfl (fun _ _ _ h => h) rfl hS fun A F => ?_
   clear hS
   refine sm_one 8 rfl (by kernel_rfl) rfl ?_
   refine sw_len F ⟨rfl, rfl, rfl⟩ rfl Tryd.underlying32 rfl fun A F => ?_
   have hS : w.cell? ⟨b, 0, none⟩ = some (.slice la pb.length lr) ∧ w.cell? ⟨b, 1, none⟩ = some (.slice (some ⟨y, 0, none⟩) ld.length ld.length) := ⟨M.cell 2 rfl rfl, M.cell 2 rfl rfl⟩
   refine sw_end ⟨fun _ => hS, ?_⟩
   clear hS
   refine sm_one 9 rfl (by kernel_rfl) rfl ?_
   refine sw_at F 1 (k := pb.length) ⟨rfl, rfl, rfl⟩ rfl rfl (by omega) Tryd.underlying47 (by kernel_rfl) rfl fun A F => ?_
   have hS : w.cell? ⟨b, 0, none⟩ = some (.slice la pb.length lr) ∧ w.cell? ⟨b, 1, none⟩ = some (.slice (some ⟨y, 0, none⟩) ld.length ld.length) := ⟨M.cell 2 rfl rfl, M.cell 2 rfl rfl⟩
   refine sw_end ⟨fun _ => hS, ?_⟩
   clear hS
   refine sm_one 10 rfl (by kernel_rfl) rfl ?_
   refine sw_bset F M 4 ⟨rfl, rfl, rfl⟩ rfl rfl rfl (by kernel_rfl) (by omega) fun w M => ?_
   simp only [List.set_cons_zero, List.set_cons_succ] at M
   rw [show 0 + pb.length * 1 = pb.length by omega] at M
   refine sw_end ⟨fun h => absurd h (by decide), ?_⟩
   refine wpAnyM_done (by kernel_rfl) ?_ _
   rw [show ld.length = (ld.set pb.length true).length by simp] at M
   show Code.wp _ _ _ _ _
   refine sw_seq ?_
   refine sw_reg ?_
   refine sw_fld F 0 ⟨rfl, rfl, rfl⟩ rfl (by kernel_rfl) rfl rfl fun A F => ?_
   refine sw_cell F M 0 ⟨rfl, rfl, rfl⟩ rfl rfl rfl (by kernel_rfl) rfl fun A F => ?_
   refine sw_neq F ⟨rfl, rfl, rfl⟩ rfl rfl rfl fun A F => ?_
   refine sw_move F ⟨rfl, rfl, rfl⟩ rfl rfl fun A F => ?_
   cases c6 : (i.op != 14) with
   | true =>
    rw [c6] at F
    refine sw_off F 3 rfl rfl rfl rfl rfl rfl rfl fun A F => ?_
    refine sw_off F 3 rfl rfl rfl rfl rfl rfl rfl fun A F => ?_
    refine sw_off F 3 rfl rfl rfl rfl rfl rfl rfl fun A F => ?_
    refine sw_off F 3 rfl rfl rfl rfl rfl rfl rfl fun A F => ?_
    refine sw_off F 3 rfl rfl rfl rfl rfl rfl rfl fun A F => ?_
    refine sw_pickT F ⟨rfl, rfl, rfl⟩ rfl rfl rfl fun A F => ?_
    refine sw_end ?_
    show Code.wp _ _ _ _ _
    refine sw_true F rfl ?_
    refine sw_reg ?_
    refine sw_move F ⟨rfl, rfl, rfl⟩ rfl rfl fun A F => ?_
    refine sw_all F M 0 ⟨rfl, rfl, rfl⟩ rfl rfl (by kernel_rfl) (by kernel_rfl) rfl fun A F => ?_
    have hld2 : (ld.set pb.length true).length = xs.length + 1 := by simp [hld]
    refine sw_callP [.box x4 [.int .i64 i.op, .int .i64 i.a, .int .i64 i.b] 31, .box pl (nats ((plist ++ [pb.length]) ++ List.replicate (xs.length - (c + 1)) 0)) 3] (ttake_m (b := b) (y := y) (la := la) (lc := lr) (pb := pb) (ld := (ld.set pb.length true)) (i := i) hsm (hR i (List.mem_of_getElem? hi)) (by omega) (by have := HB.le; omega)) F M ⟨rfl, rfl, rfl⟩ rfl rfl ?_
    rintro _ _ A w ⟨_, la2, lc2, rfl⟩ F M
    simp only [List.cons_append, List.nil_append] at M
    refine sw_end ?_
    show Code.wp _ _ _ _ _
    refine sw_reg ?_
    refine sw_add F ⟨rfl, rfl, rfl⟩ rfl rfl (by have := HB.le; omega) rfl fun A F => ?_
    refine sw_move F ⟨rfl, rfl, rfl⟩ rfl rfl fun A F => ?_
    refine sw_end ?_
    replace M := M.drop 0 rfl
    have hldN : ldN (jmpd xs) c pb ld = (ld.set pb.length true) := by unfold ldN; rw [if_pos (getD_true.2 hz)]
    have hpbN : pbN c pb (ldN (jmpd xs) c pb ld) i = takeP pb (ld.set pb.length true) i := by unfold pbN; rw [if_neg (fun q => (by simpa using c6 : i.op ≠ 14) q.1), hldN]
    have hst := pGo_next (jt := jmpd xs) (pb := pb) (ld := ld) (pl := plist) hi
    rw [hpbN, hldN] at hst
    have hln := pbN_len c pb (ldN (jmpd xs) c pb ld) i
    rw [hpbN] at hln
    have hok := pb_ok (n := xs.length) (ld := (ld.set pb.length true)) hsm hJ (hS i (List.mem_of_getElem? hi)) (L i (List.mem_of_getElem? hi))
    show _ ∧ _
    refine ⟨⟨c + 1, (takeP pb (ld.set pb.length true) i), (ld.set pb.length true), plist ++ [pb.length], _, _, by omega, by simp [hpl], by omega, by simp [hld], hok.1, hok.2, heq.trans hst, F.keep [0, 3, 4, 5, 19, 20, 21] rfl, M⟩, ?_⟩
    rw [(F.keep (N := 72) (L' := [(21, .int .i64 ((c + 1 : Nat) : Int))]) [21] rfl).2.2 21 (.int .i64 ((c + 1 : Nat) : Int)) rfl, hA21]
    simp only [intOf]
    omega
   | false =>
    rw [c6] at F
    refine sw_on F 3 rfl rfl rfl rfl rfl ?_
    refine sw_fld F 1 ⟨rfl, rfl, rfl⟩ rfl (by kernel_rfl) rfl rfl fun A F => ?_
    refine sw_on F 3 rfl rfl rfl rfl rfl ?_
    refine sw_cell F M 0 ⟨rfl, rfl, rfl⟩ rfl rfl rfl (by kernel_rfl) rfl fun A F => ?_
    refine sw_on F 3 rfl rfl rfl rfl rfl ?_
    refine sw_move F ⟨rfl, rfl, rfl⟩ rfl rfl fun A F => ?_
    refine sw_on F 3 rfl rfl rfl rfl rfl ?_
    refine sw_add F ⟨rfl, rfl, rfl⟩ rfl rfl (by have := HB.le; omega) rfl fun A F => ?_
    refine sw_on F 3 rfl rfl rfl rfl rfl ?_
    refine sw_neq F ⟨rfl, rfl, rfl⟩ rfl rfl rfl fun A F => ?_
    refine sw_pickF F ⟨rfl, rfl, rfl⟩ rfl rfl rfl fun A F => ?_
    refine sw_end ?_
    show Code.wp _ _ _ _ _
    refine sw_cond F rfl (fun hc7 => ?_) (fun hc7 => ?_)
    ·skip
     refine sw_reg ?_
     refine sw_move F ⟨rfl, rfl, rfl⟩ rfl rfl fun A F => ?_
     refine sw_all F M 0 ⟨rfl, rfl, rfl⟩ rfl rfl (by kernel_rfl) (by kernel_rfl) rfl fun A F => ?_
     have hld2 : (ld.set pb.length true).length = xs.length + 1 := by simp [hld]
     refine sw_callP [.box x4 [.int .i64 i.op, .int .i64 i.a, .int .i64 i.b] 31, .box pl (nats ((plist ++ [pb.length]) ++ List.replicate (xs.length - (c + 1)) 0)) 3] (ttake_m (b := b) (y := y) (la := la) (lc := lr) (pb := pb) (ld := (ld.set pb.length true)) (i := i) hsm (hR i (List.mem_of_getElem? hi)) (by omega) (by have := HB.le; omega)) F M ⟨rfl, rfl, rfl⟩ rfl rfl ?_
     rintro _ _ A w ⟨_, la2, lc2, rfl⟩ F M
     simp only [List.cons_append, List.nil_append] at M
     refine sw_end ?_
     show Code.wp _ _ _ _ _
     refine sw_reg ?_
     refine sw_add F ⟨rfl, rfl, rfl⟩ rfl rfl (by have := HB.le; omega) rfl fun A F => ?_
     refine sw_move F ⟨rfl, rfl, rfl⟩ rfl rfl fun A F => ?_
     refine sw_end ?_
     replace M := M.drop 0 rfl
     have hldN : ldN (jmpd xs) c pb ld = (ld.set pb.length true) := by unfold ldN; rw [if_pos (getD_true.2 hz)]
     have hpbN : pbN c pb (ldN (jmpd xs) c pb ld) i = takeP pb (ld.set pb.length true) i := by unfold pbN; rw [if_neg (fun q => (by simpa using hc7 : i.a ≠ ((c + 1 : Nat) : Int)) (by rw [q.2]; simp)), hldN]
     have hst := pGo_next (jt := jmpd xs) (pb := pb) (ld := ld) (pl := plist) hi
     rw [hpbN, hldN] at hst
     have hln := pbN_len c pb (ldN (jmpd xs) c pb ld) i
     rw [hpbN] at hln
     have hok := pb_ok (n := xs.length) (ld := (ld.set pb.length true)) hsm hJ (hS i (List.mem_of_getElem? hi)) (L i (List.mem_of_getElem? hi))
     show _ ∧ _
     refine ⟨⟨c + 1, (takeP pb (ld.set pb.length true) i), (ld.set pb.length true), plist ++ [pb.length], _, _, by omega, by simp [hpl], by omega, by simp [hld], hok.1, hok.2, heq.trans hst, F.keep [0, 3, 4, 5, 19, 20, 21] rfl, M⟩, ?_⟩
     rw [(F.keep (N := 72) (L' := [(21, .int .i64 ((c + 1 : Nat) : Int))]) [21] rfl).2.2 21 (.int .i64 ((c + 1 : Nat) : Int)) rfl, hA21]
     simp only [intOf]
     omega
    ·skip
     refine wp_skip ?_
     show Code.wp _ _ _ _ _
     refine sw_reg ?_
     refine sw_add F ⟨rfl, rfl, rfl⟩ rfl rfl (by have := HB.le; omega) rfl fun A F => ?_
     refine sw_move F ⟨rfl, rfl, rfl⟩ rfl rfl fun A F => ?_
     refine sw_end ?_
     replace M := M.drop 0 rfl
     have hldN : ldN (jmpd xs) c pb ld = (ld.set pb.length true) := by unfold ldN; rw [if_pos (getD_true.2 hz)]
     have hpbN : pbN c pb (ldN (jmpd xs) c pb ld) i = pb := by
      have q : i.a = ((c + 1 : Nat) : Int) := by simpa using hc7
      unfold pbN
      exact if_pos ⟨(by simpa using c6 : i.op = 14), by rw [q]; simp⟩
     have hst := pGo_next (jt := jmpd xs) (pb := pb) (ld := ld) (pl := plist) hi
     rw [hpbN, hldN] at hst
     have hln := pbN_len c pb (ldN (jmpd xs) c pb ld) i
     rw [hpbN] at hln
     have hok := And.intro hsm hJ
     show _ ∧ _
     refine ⟨⟨c + 1, pb, (ld.set pb.length true), plist ++ [pb.length], _, _, by omega, by simp [hpl], by omega, by simp [hld], hok.1, hok.2, heq.trans hst, F.keep [0, 3, 4, 5, 19, 20, 21] rfl, M⟩, ?_⟩
     rw [(F.keep (N := 72) (L' := [(21, .int .i64 ((c + 1 : Nat) : Int))]) [21] rfl).2.2 21 (.int .i64 ((c + 1 : Nat) : Int)) rfl, hA21]
     simp only [intOf]
     omega
  ·skip
   subst hc5
   refine wp_skip ?_
   show Code.wp _ _ _ _ _
   refine sw_seq ?_
   refine sw_reg ?_
   refine sw_fld F 0 ⟨rfl, rfl, rfl⟩ rfl (by kernel_rfl) rfl rfl fun A F => ?_
   refine sw_cell F M 0 ⟨rfl, rfl, rfl⟩ rfl rfl rfl (by kernel_rfl) rfl fun A F => ?_
   refine sw_neq F ⟨rfl, rfl, rfl⟩ rfl rfl rfl fun A F => ?_
   refine sw_move F ⟨rfl, rfl, rfl⟩ rfl rfl fun A F => ?_
   cases c8 : (i.op != 14) with
   | true =>
    rw [c8] at F
    refine sw_off F 3 rfl rfl rfl rfl rfl rfl rfl fun A F => ?_
    refine sw_off F 3 rfl rfl rfl rfl rfl rfl rfl fun A F => ?_
    refine sw_off F 3 rfl rfl rfl rfl rfl rfl rfl fun A F => ?_
    refine sw_off F 3 rfl rfl rfl rfl rfl rfl rfl fun A F => ?_
    refine sw_off F 3 rfl rfl rfl rfl rfl rfl rfl fun A F => ?_
    refine sw_pickT F ⟨rfl, rfl, rfl⟩ rfl rfl rfl fun A F => ?_
    refine sw_end ?_
    show Code.wp _ _ _ _ _
    refine sw_true F rfl ?_
    refine sw_reg ?_
    refine sw_move F ⟨rfl, rfl, rfl⟩ rfl rfl fun A F => ?_
    refine sw_all F M 0 ⟨rfl, rfl, rfl⟩ rfl rfl (by kernel_rfl) (by kernel_rfl) rfl fun A F => ?_
    have hld2 : ld.length = xs.length + 1 := by simp [hld]
    refine sw_callP [.box x4 [.int .i64 i.op, .int .i64 i.a, .int .i64 i.b] 31, .box pl (nats ((plist ++ [pb.length]) ++ List.replicate (xs.length - (c + 1)) 0)) 3] (ttake_m (b := b) (y := y) (la := la) (lc := lr) (pb := pb) (ld := ld) (i := i) hsm (hR i (List.mem_of_getElem? hi)) (by omega) (by have := HB.le; omega)) F M ⟨rfl, rfl, rfl⟩ rfl rfl ?_
    rintro _ _ A w ⟨_, la2, lc2, rfl⟩ F M
    simp only [List.cons_append, List.nil_append] at M
    refine sw_end ?_
    show Code.wp _ _ _ _ _
    refine sw_reg ?_
    refine sw_add F ⟨rfl, rfl, rfl⟩ rfl rfl (by have := HB.le; omega) rfl fun A F => ?_
    refine sw_move F ⟨rfl, rfl, rfl⟩ rfl rfl fun A F => ?_
    refine sw_end ?_
    replace M := M.drop 0 rfl
    have hldN : ldN (jmpd xs) c pb ld = ld := by unfold ldN; rw [if_neg (fun q => by rw [getD_true, hz] at q; cases q)]
    have hpbN : pbN c pb (ldN (jmpd xs) c pb ld) i = takeP pb ld i := by unfold pbN; rw [if_neg (fun q => (by simpa using c8 : i.op ≠ 14) q.1), hldN]
    have hst := pGo_next (jt := jmpd xs) (pb := pb) (ld := ld) (pl := plist) hi
    rw [hpbN, hldN] at hst
    have hln := pbN_len c pb (ldN (jmpd xs) c pb ld) i
    rw [hpbN] at hln
    have hok := pb_ok (n := xs.length) (ld := ld) hsm hJ (hS i (List.mem_of_getElem? hi)) (L i (List.mem_of_getElem? hi))
    show _ ∧ _
    refine ⟨⟨c + 1, (takeP pb ld i), ld, plist ++ [pb.length], _, _, by omega, by simp [hpl], by omega, by simp [hld], hok.1, hok.2, heq.trans hst, F.keep [0, 3, 4, 5, 19, 20, 21] rfl, M⟩, ?_⟩
    rw [(F.keep (N := 72) (L' := [(21, .int .i64 ((c + 1 : Nat) : Int))]) [21] rfl).2.2 21 (.int .i64 ((c + 1 : Nat) : Int)) rfl, hA21]
    simp only [intOf]
    omega
   | false =>
    rw [c8] at F
    refine sw_on F 3 rfl rfl rfl rfl rfl ?_
    refine sw_fld F 1 ⟨rfl, rfl, rfl⟩ rfl (by kernel_rfl) rfl rfl fun A F => ?_
    refine sw_on F 3 rfl rfl rfl rfl rfl ?_
    refine sw_cell F M 0 ⟨rfl, rfl, rfl⟩ rfl rfl rfl (by kernel_rfl) rfl fun A F => ?_
    refine sw_on F 3 rfl rfl rfl rfl rfl ?_
    refine sw_move F ⟨rfl, rfl, rfl⟩ rfl rfl fun A F => ?_
    refine sw_on F 3 rfl rfl rfl rfl rfl ?_
    refine sw_add F ⟨rfl, rfl, rfl⟩ rfl rfl (by have := HB.le; omega) rfl fun A F => ?_
    refine sw_on F 3 rfl rfl rfl rfl rfl ?_
    refine sw_neq F ⟨rfl, rfl, rfl⟩ rfl rfl rfl fun A F => ?_
    refine sw_pickF F ⟨rfl, rfl, rfl⟩ rfl rfl rfl fun A F => ?_
    refine sw_end ?_
    show Code.wp _ _ _ _ _
    refine sw_cond F rfl (fun hc9 => ?_) (fun hc9 => ?_)
    ·skip
     refine sw_reg ?_
     refine sw_move F ⟨rfl, rfl, rfl⟩ rfl rfl fun A F => ?_
     refine sw_all F M 0 ⟨rfl, rfl, rfl⟩ rfl rfl (by kernel_rfl) (by kernel_rfl) rfl fun A F => ?_
     have hld2 : ld.length = xs.length + 1 := by simp [hld]
     refine sw_callP [.box x4 [.int .i64 i.op, .int .i64 i.a, .int .i64 i.b] 31, .box pl (nats ((plist ++ [pb.length]) ++ List.replicate (xs.length - (c + 1)) 0)) 3] (ttake_m (b := b) (y := y) (la := la) (lc := lr) (pb := pb) (ld := ld) (i := i) hsm (hR i (List.mem_of_getElem? hi)) (by omega) (by have := HB.le; omega)) F M ⟨rfl, rfl, rfl⟩ rfl rfl ?_
     rintro _ _ A w ⟨_, la2, lc2, rfl⟩ F M
     simp only [List.cons_append, List.nil_append] at M
     refine sw_end ?_
     show Code.wp _ _ _ _ _
     refine sw_reg ?_
     refine sw_add F ⟨rfl, rfl, rfl⟩ rfl rfl (by have := HB.le; omega) rfl fun A F => ?_
     refine sw_move F ⟨rfl, rfl, rfl⟩ rfl rfl fun A F => ?_
     refine sw_end ?_
     replace M := M.drop 0 rfl
     have hldN : ldN (jmpd xs) c pb ld = ld := by unfold ldN; rw [if_neg (fun q => by rw [getD_true, hz] at q; cases q)]
     have hpbN : pbN c pb (ldN (jmpd xs) c pb ld) i = takeP pb ld i := by unfold pbN; rw [if_neg (fun q => (by simpa using hc9 : i.a ≠ ((c + 1 : Nat) : Int)) (by rw [q.2]; simp)), hldN]
     have hst := pGo_next (jt := jmpd xs) (pb := pb) (ld := ld) (pl := plist) hi
     rw [hpbN, hldN] at hst
     have hln := pbN_len c pb (ldN (jmpd xs) c pb ld) i
     rw [hpbN] at hln
     have hok := pb_ok (n := xs.length) (ld := ld) hsm hJ (hS i (List.mem_of_getElem? hi)) (L i (List.mem_of_getElem? hi))
     show _ ∧ _
     refine ⟨⟨c + 1, (takeP pb ld i), ld, plist ++ [pb.length], _, _, by omega, by simp [hpl], by omega, by simp [hld], hok.1, hok.2, heq.trans hst, F.keep [0, 3, 4, 5, 19, 20, 21] rfl, M⟩, ?_⟩
     rw [(F.keep (N := 72) (L' := [(21, .int .i64 ((c + 1 : Nat) : Int))]) [21] rfl).2.2 21 (.int .i64 ((c + 1 : Nat) : Int)) rfl, hA21]
     simp only [intOf]
     omega
    ·skip
     refine wp_skip ?_
     show Code.wp _ _ _ _ _
     refine sw_reg ?_
     refine sw_add F ⟨rfl, rfl, rfl⟩ rfl rfl (by have := HB.le; omega) rfl fun A F => ?_
     refine sw_move F ⟨rfl, rfl, rfl⟩ rfl rfl fun A F => ?_
     refine sw_end ?_
     replace M := M.drop 0 rfl
     have hldN : ldN (jmpd xs) c pb ld = ld := by unfold ldN; rw [if_neg (fun q => by rw [getD_true, hz] at q; cases q)]
     have hpbN : pbN c pb (ldN (jmpd xs) c pb ld) i = pb := by
      have q : i.a = ((c + 1 : Nat) : Int) := by simpa using hc9
      unfold pbN
      exact if_pos ⟨(by simpa using c8 : i.op = 14), by rw [q]; simp⟩
     have hst := pGo_next (jt := jmpd xs) (pb := pb) (ld := ld) (pl := plist) hi
     rw [hpbN, hldN] at hst
     have hln := pbN_len c pb (ldN (jmpd xs) c pb ld) i
     rw [hpbN] at hln
     have hok := And.intro hsm hJ
     show _ ∧ _
     refine ⟨⟨c + 1, pb, ld, plist ++ [pb.length], _, _, by omega, by simp [hpl], by omega, by simp [hld], hok.1, hok.2, heq.trans hst, F.keep [0, 3, 4, 5, 19, 20, 21] rfl, M⟩, ?_⟩
     rw [(F.keep (N := 72) (L' := [(21, .int .i64 ((c + 1 : Nat) : Int))]) [21] rfl).2.2 21 (.int .i64 ((c + 1 : Nat) : Int)) rfl, hA21]
     simp only [intOf]
     omega
 ·skip
  have hce : c = xs.length := by have := of_decide_eq_false hc3; omega
  refine wp_exit ?_
  repeat (first | refine then_exit ?_ | refine exit_block ?_ | refine exit_pass rfl ?_)
  show Code.wp _ _ _ _ _
  refine sw_seq ?_
  refine sw_reg ?_
  refine sw_move F ⟨rfl, rfl, rfl⟩ rfl rfl fun A F => ?_
  refine sw_nil F ⟨rfl, rfl, rfl⟩ rfl rfl fun A F => ?_
  refine sw_fld F 0 ⟨rfl, rfl, rfl⟩ rfl (by kernel_rfl) rfl rfl fun A F => ?_
  refine sw_cell F M 1 ⟨rfl, rfl, rfl⟩ rfl rfl rfl (by kernel_rfl) rfl fun A F => ?_
  refine sw_move F ⟨rfl, rfl, rfl⟩ rfl rfl fun A F => ?_
  have hgo : pGo (jmpd xs) xs 0 [] (List.replicate (xs.length + 1) false) [] = (pb, plist) := by
   rw [heq, hce, List.drop_length]
   rfl
  have hpr : prsd xs = pb.map (mv fun k => plist.getD k 0) := by rw [prsd, hgo]
  have hne : pb ≠ [] := fun q => by
   have h0 := ((prsd_fb X).gd 0 0 .start).1
   rw [hpr, q] at h0
   simp at h0
  rw [hce, Nat.sub_self, List.replicate_zero, List.append_nil] at M
  have hpl2 : plist.length = xs.length := by omega
  obtain ⟨xl, zs, rfl, ok, M⟩ := M.unrow 2 rfl (by simpa using hne)
  simp only [List.set_cons_zero, List.set_cons_succ] at M
  have M2 := Mm.permE (A := [.box pl (nats plist) 3, .box b [.slice (some ⟨xl, 0, none⟩) pb.length lr, .slice (some ⟨y, 0, none⟩) ld.length ld.length] 57, .box xl (flatV (pb.map Ins.flds) ++ zs) 31, .box y (ld.map Value.bool) 4, .box xj ((jmpd xs).map Value.bool) 4]) (A' := [.box xl (flatV (pb.map Ins.flds) ++ zs) 31, .box pl (nats plist) 3, .box b [.slice (some ⟨xl, 0, none⟩) pb.length lr, .slice (some ⟨y, 0, none⟩) ld.length ld.length] 57, .box y (ld.map Value.bool) 4, .box xj ((jmpd xs).map Value.bool) 4]) (E := []) M [2, 0, 1, 3, 4] rfl rfl (by decide)
  have HM := tmove_m (xl := xl) (pb := pl) (pl := plist) ok (by have := HB.le; omega) (fun i hi hj => by rw [hpl2]; exact hJ i hi hj)
  rw [hpl2] at HM
  refine sw_callE HM F (E := [.box b [.slice (some ⟨xl, 0, none⟩) pb.length lr, .slice (some ⟨y, 0, none⟩) ld.length ld.length] 57, .box y (ld.map Value.bool) 4, .box xj ((jmpd xs).map Value.bool) 4]) M2 ⟨rfl, rfl, rfl⟩ rfl rfl ?_
  clear M M2
  rintro _ _ A w ⟨_, rfl⟩ F M
  rw [← hpr] at M
  simp only [List.cons_append, List.nil_append] at M
  refine sw_end ?_
  show Code.wp _ _ _ _ _
  refine sw_seq ?_
  refine sw_reg ?_
  refine sw_move F ⟨rfl, rfl, rfl⟩ rfl rfl fun A F => ?_
  refine sw_nil F ⟨rfl, rfl, rfl⟩ rfl rfl fun A F => ?_
  refine sw_fld F 0 ⟨rfl, rfl, rfl⟩ rfl (by kernel_rfl) rfl rfl fun A F => ?_
  refine sw_cell F M 2 ⟨rfl, rfl, rfl⟩ rfl rfl rfl (by kernel_rfl) rfl fun A F => ?_
  refine sw_asg F ⟨rfl, rfl, rfl⟩ rfl rfl fun A F => ?_
  refine sw_end ?_
  show Code.wp _ _ _ _ _
  refine wp_ret ?_
  repeat (first | refine then_ret ?_ | refine block_ret ?_)
  exact sw_rettmp F Tryd.results21 rfl ⟨⟨xl, lr, by rw [hpr]; simp, flI_at (M.mem.box (k := 0) rfl).1 (by rw [hpr, List.length_map]; have := HB.le; omega), (M.mem.box (k := 0) rfl).2, by rw [hpr, List.length_map]; simpa using ok.fits (by decide), ok.most⟩, M.st⟩
end Go.Proofs.YtemjajljpoaioaaDoor
