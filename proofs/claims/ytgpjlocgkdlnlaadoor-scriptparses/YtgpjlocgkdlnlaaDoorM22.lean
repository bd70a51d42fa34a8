/- The models of tables, functions, contracts (no program). -/
import Derived.Test.YtgpjlocgkdlnlaaDoorM18
import Derived.Test.YtgpjlocgkdlnlaaDoorSStC

namespace Go.Proofs.YtgpjlocgkdlnlaaDoor
open Go.RowKit
set_option linter.unusedVariables false
set_option linter.unusedSimpArgs false

def tbP (s : Key) (k j : Int) : EV := [.s s, .i k, .i j]
def tableT : PM EV := bnd (takeT kMap) fun _ => bnd nameT fun s => bnd (takeT [58]) fun _ => bnd kindT fun k => bnd (takeT [45, 62]) fun _ => bnd kindT fun j => bnd (takeT [59]) fun _ => pur (tbP s k j)
abbrev CT := List EV × List EV × List EV
def itemM (n : Nat) (c : CT) : PM CT :=
  bnd (isT kSlot) fun a => ifT a (bnd (roomT ((c.1.length : Int) + (c.2.1.length : Int)) 32) fun _ => bnd (takeT kSlot) fun _ => bnd paramT fun p => bnd (takeT [59]) fun _ => pur (c.1 ++ [paP p], c.2.1, c.2.2))
    (bnd (isT kMap) fun a => ifT a (bnd (roomT ((c.1.length : Int) + (c.2.1.length : Int)) 32) fun _ => bnd tableT fun t => pur (c.1, c.2.1 ++ [t], c.2.2))
      (bnd (isT kFn) fun a => ifT a (bnd (roomT (c.2.2.length : Int) 32) fun _ => bnd (fnM n) fun f => pur (c.1, c.2.1, c.2.2 ++ [f]))
        (bnd (isT kOpen) fun a => ifT a (bnd (roomT (c.2.2.length : Int) 32) fun _ => bnd (fnM n) fun f => pur (c.1, c.2.1, c.2.2 ++ [f])) wrongT)))
def itemsM : Nat → CT → PM CT
  | 0, _ => failT 0
  | n + 1, c => bnd (isT [125]) fun e => ifT e (pur c) (bnd (itemM n c) fun c => itemsM n c)
def ctP (s : Key) (c : CT) : EV := [.s s, .l c.1, .l c.2.1, .l c.2.2]
def contractM (n : Nat) : PM EV := bnd (takeT kContract) fun _ => bnd nameT fun s => bnd (takeT [123]) fun _ => bnd (itemsM n ([], [], [])) fun c => bnd (takeT [125]) fun _ => pur (ctP s c)
def endT : PM Unit := fun σ => if σ.now = .fin then .ok ((), σ) else .error 4
def parseM (n : Nat) : PM EV := bnd nextT fun _ => bnd (contractM n) fun x => bnd endT fun _ => pur x
theorem pars_le : ∀ n l, Le (parsM n l) (parsM (n + 1) l)
  | 0, _ => Le.fail _
  | n + 1, l => by
    rw [parsM, parsM]
    exact Le.bnd (Le.refl _) fun c => Le.ifT (Le.bnd (Le.refl _) fun _ => Le.bnd (Le.refl _) fun _ => Le.bnd (Le.refl _) fun p => pars_le n _) (Le.refl _)
theorem params_le (n : Nat) : Le (paramsM n) (paramsM (n + 1)) := Le.bnd (Le.refl _) fun c => Le.ifT (Le.refl _) (Le.bnd (Le.refl _) fun p => pars_le n _)
theorem block_le (n : Nat) : Le (blockM n) (blockM (n + 1)) := (step_le n).2.2.2.2.1
theorem fn_le (n : Nat) : Le (fnM n) (fnM (n + 1)) := Le.bnd (Le.refl _) fun o => Le.bnd (Le.refl _) fun _ => Le.bnd (Le.refl _) fun _ => Le.bnd (Le.refl _) fun s => Le.bnd (Le.refl _) fun _ => Le.bnd (params_le n) fun l => Le.bnd (Le.refl _) fun _ => Le.bnd (Le.refl _) fun _ => Le.bnd (Le.refl _) fun k => Le.bnd (block_le n) fun b => Le.refl _
theorem item_le (n : Nat) (c : CT) : Le (itemM n c) (itemM (n + 1) c) := Le.bnd (Le.refl _) fun a => Le.ifT (Le.refl _) (Le.bnd (Le.refl _) fun a => Le.ifT (Le.refl _) (Le.bnd (Le.refl _) fun a => Le.ifT (Le.bnd (Le.refl _) fun _ => Le.bnd (fn_le n) fun f => Le.refl _) (Le.bnd (Le.refl _) fun a => Le.ifT (Le.bnd (Le.refl _) fun _ => Le.bnd (fn_le n) fun f => Le.refl _) (Le.refl _))))
theorem items_le : ∀ n c, Le (itemsM n c) (itemsM (n + 1) c)
  | 0, _ => Le.fail _
  | n + 1, c => by
    rw [itemsM, itemsM]
    exact Le.bnd (Le.refl _) fun e => Le.ifT (Le.refl _) (Le.bnd (item_le n c) fun c => items_le n c)
theorem contract_le (n : Nat) : Le (contractM n) (contractM (n + 1)) := Le.bnd (Le.refl _) fun _ => Le.bnd (Le.refl _) fun s => Le.bnd (Le.refl _) fun _ => Le.bnd (items_le n _) fun c => Le.refl _
theorem param_shr : Shr paramT := Shr.bnd Shr.name fun s => Shr.bnd (Shr.take _) fun _ => Shr.bnd Shr.kind fun k => Shr.pur _
theorem pars_shr : ∀ n l, Shr (parsM n l)
  | 0, _ => Shr.fail _
  | n + 1, l => by
    rw [parsM]
    exact Shr.bnd (Shr.is _) fun c => Shr.ifT (Shr.bnd (Shr.room _ _) fun _ => Shr.bnd (Shr.take _) fun _ => Shr.bnd param_shr fun p => pars_shr n _) (Shr.pur _)
theorem params_shr (n : Nat) : Shr (paramsM n) := Shr.bnd (Shr.is _) fun c => Shr.ifT (Shr.pur _) (Shr.bnd param_shr fun p => pars_shr n _)
theorem fn_shr (n : Nat) : Shr (fnM n) := Shr.bnd (Shr.is _) fun o => Shr.bnd (Shr.ifT (Shr.take _) (Shr.pur _)) fun _ => Shr.bnd (Shr.take _) fun _ => Shr.bnd Shr.name fun s => Shr.bnd (Shr.take _) fun _ => Shr.bnd (params_shr n) fun l => Shr.bnd (Shr.take _) fun _ => Shr.bnd (Shr.take _) fun _ => Shr.bnd Shr.kind fun k => Shr.bnd (step_shr n).2.2.2.2.1 fun b => Shr.pur _
theorem table_shr : Shr tableT := Shr.bnd (Shr.take _) fun _ => Shr.bnd Shr.name fun s => Shr.bnd (Shr.take _) fun _ => Shr.bnd Shr.kind fun k => Shr.bnd (Shr.take _) fun _ => Shr.bnd Shr.kind fun j => Shr.bnd (Shr.take _) fun _ => Shr.pur _
theorem Takes.room {n m : Int} {α : Type} [Inhabited α] {G : Unit → PM α} (g : ∀ x, Takes (G x)) : Takes (Go.Proofs.YtgpjlocgkdlnlaaDoor.bnd (roomT n m) G) := fun σ y S' q => by
  obtain ⟨⟨⟩, S1, h1, h2⟩ := Rel.unbind q
  unfold roomT at h1
  split at h1
  · have := h1.get_err (e := 3) rfl
    subst this
    exact .inl ⟨3, h2⟩
  · have := need_pur h1
    subst this
    exact g () σ y S' h2
theorem Takes.is {s : Key} {α : Type} [Inhabited α] {G : Bool → PM α} (g : ∀ x, Takes (G x)) : Takes (Go.Proofs.YtgpjlocgkdlnlaaDoor.bnd (isT s) G) := Takes.after (fun σ x S' h => h.stay) g
theorem Takes.opt {o : Bool} {s : Key} {α : Type} [Inhabited α] {G : PM α} (g : Takes G) : Takes (Go.Proofs.YtgpjlocgkdlnlaaDoor.bnd (Go.Proofs.YtgpjlocgkdlnlaaDoor.ifT o (takeT s) (pur ())) fun _ => G) := fun σ y S' q => by
  obtain ⟨⟨⟩, S1, h1, h2⟩ := Rel.unbind q
  have h3 : need S1 ≤ need (.ok σ) := (Shr.ifT (c := o) (Shr.take s) (Shr.pur ())) _ _ _ h1
  cases S1 with
  | error e => exact .inl ⟨e, h2⟩
  | ok τ =>
    rcases g τ y S' h2 with q | q
    · exact .inl q
    · exact .inr (by omega)
theorem fn_takes (n : Nat) : Takes (fnM n) := Takes.is fun o => Takes.opt (Takes.bd (Takes.take _) fun _ => Shr.bnd Shr.name fun s => Shr.bnd (Shr.take _) fun _ => Shr.bnd (params_shr n) fun l => Shr.bnd (Shr.take _) fun _ => Shr.bnd (Shr.take _) fun _ => Shr.bnd Shr.kind fun k => Shr.bnd (step_shr n).2.2.2.2.1 fun b => Shr.pur _)
theorem item_takes (c : CT) (n : Nat) : Takes (itemM n c) :=
  Takes.is fun a => Takes.ifT (Takes.room fun _ => Takes.bd (Takes.take _) fun _ => Shr.bnd param_shr fun p => Shr.bnd (Shr.take _) fun _ => Shr.pur _)
    (Takes.is fun a => Takes.ifT (Takes.room fun _ => Takes.bd (Takes.bd (Takes.take _) fun _ => Shr.bnd Shr.name fun s => Shr.bnd (Shr.take _) fun _ => Shr.bnd Shr.kind fun k => Shr.bnd (Shr.take _) fun _ => Shr.bnd Shr.kind fun j => Shr.bnd (Shr.take _) fun _ => Shr.pur _) fun t => Shr.pur _)
      (Takes.is fun a => Takes.ifT (Takes.room fun _ => Takes.bd (fn_takes n) fun f => Shr.pur _) (Takes.is fun a => Takes.ifT (Takes.room fun _ => Takes.bd (fn_takes n) fun f => Shr.pur _) Takes.wrong)))
theorem params_takes_tail : True := trivial
end Go.Proofs.YtgpjlocgkdlnlaaDoor

namespace Go.Proofs.YtgpjlocgkdlnlaaDoor
end Go.Proofs.YtgpjlocgkdlnlaaDoor

namespace Go.Proofs.YtgpjlocgkdlnlaaDoor
open Go.RowKit
set_option linter.unusedVariables false
set_option linter.unusedSimpArgs false

theorem Kn.bif_true {α β : Type} {F : Nat → PM α} {A B : Nat → PM β} {G : Nat → β → PM α} {S S1 : ES} {c : Bool} (k : Kn F S (fun n => bnd (ifT c (A n) (B n)) (G n)) S1) (h : c = true) : Kn F S (fun n => bnd (A n) (G n)) S1 := by subst h; exact k
theorem Kn.bif_false {α β : Type} {F : Nat → PM α} {A : Nat → PM β} {x : β} {G : Nat → β → PM α} {S S1 : ES} {c : Bool} (k : Kn F S (fun n => bnd (ifT c (A n) (pur x)) (G n)) S1) (h : c = false) : Kn F S (fun n => G n x) S1 := by subst h; exact k
theorem parsM_succ (l : List EV) (n : Nat) : parsM (n + 1) l = bnd (isT [44]) fun c => ifT c (bnd (roomT l.length 8) fun _ => bnd (takeT [44]) fun _ => bnd paramT fun p => parsM n (l ++ [paP p])) (pur l) := by rw [parsM]
theorem lf_comma {l m : Int} {S S1 S2 S3 : ES} {x : Key × Int} (hs : stands [44] S = true) (h1 : Rv (fun _ => roomT l m) S () S1) (h2 : Rv (fun _ => takeT [44]) S1 () S2) (h3 : Rv (fun _ => paramT) S2 x S3) : lf S3 < lf S := by
  have k := lf_takes (F := fun _ => bnd (roomT l m) fun _ => bnd (takeT [44]) fun _ => paramT) (h1.bind (h2.bind h3)) fun _ => Takes.room fun _ => Takes.bd (Takes.take _) fun _ => param_shr
  cases S with
  | error e => cases hs
  | ok σ =>
    show lf S3 < need (.ok σ) + 1
    omega
set_option maxRecDepth 8000 in
set_option maxHeartbeats 3200000 in
theorem table_m (b : Nat) (S : ES) : Meth Tryd.prog (RdX b) (fun k => k = b) 48 [ptr b] S fun v fs S' => ∃ (s : Key) (k j : Int), fs = [.s s, .i k, .i j] ∧ v = .agg (fs.map Fld.val).toArray ∧ (0 ≤ k ∧ k ≤ 3) ∧ (0 ≤ j ∧ j ≤ 3) ∧ Rv (fun _ => tableT) S (pvAll fs) S' := by
  refine ⟨by kernel_rfl, fun wO R _ => ?_⟩
  have M := rd_begin R
  have kn := Kn.here (F := fun _ => tableT) (S := S)
  refine sw_fn Tryd.func48 rfl 22 Tryd.ntmps48 rfl fun A F => ?_
  refine sw_seq ?_
  refine sw_reg ?_
  refine sw_alloc F M [.string ⟨#[]⟩, .int .i64 0, .int .i64 0] ⟨rfl, rfl, rfl⟩ (by kernel_rfl) rfl fun x1 A w F M => ?_
  refine sw_end ?_
  show Code.wp _ _ _ _ _
  refine sw_seq ?_
  refine sw_reg ?_
  refine sw_move F ⟨rfl, rfl, rfl⟩ rfl rfl fun A F => ?_
  refine sw_call0 (take_m [109, 97, 112] b S) F M ⟨rfl, rfl, rfl⟩ rfl rfl ?_
  rintro _ S2 A w ⟨_, h3⟩ F M
  replace kn := kn.step h3
  refine sw_end ?_
  show Code.wp _ _ _ _ _
  refine sw_seq ?_
  refine sw_reg ?_
  refine sw_move F ⟨rfl, rfl, rfl⟩ rfl rfl fun A F => ?_
  refine sw_call0 (name_m b S2) F M ⟨rfl, rfl, rfl⟩ rfl rfl ?_
  rintro _ S4 A w ⟨_, s6, rfl, h5⟩ F M
  replace kn := kn.step h5
  refine sw_build F _ [.string (str s6), .int .i64 0, .int .i64 0] ⟨rfl, rfl, rfl⟩ rfl (by kernel_rfl) rfl fun A F => ?_
  refine sw_alloc F M [.string ⟨#[]⟩, .int .i64 0, .int .i64 0] ⟨rfl, rfl, rfl⟩ (by kernel_rfl) rfl fun x7 A w F M => ?_
  refine sw_setAll F M 0 ⟨rfl, rfl, rfl⟩ rfl rfl rfl (by kernel_rfl) rfl rfl fun w M => ?_
  simp only [List.set_cons_zero, List.set_cons_succ] at M
  refine sw_end ?_
  show Code.wp _ _ _ _ _
  refine sw_seq ?_
  refine sw_reg ?_
  refine sw_move F ⟨rfl, rfl, rfl⟩ rfl rfl fun A F => ?_
  refine sw_call0 (take_m [58] b S4) F M ⟨rfl, rfl, rfl⟩ rfl rfl ?_
  rintro _ S8 A w ⟨_, h9⟩ F M
  replace kn := kn.step h9
  refine sw_end ?_
  show Code.wp _ _ _ _ _
  refine sw_seq ?_
  refine sw_reg ?_
  refine sw_move F ⟨rfl, rfl, rfl⟩ rfl rfl fun A F => ?_
  refine sw_call0 (kind_m b S8) F M ⟨rfl, rfl, rfl⟩ rfl rfl ?_
  rintro _ S10 A w ⟨_, k12, rfl, hkk12, h11⟩ F M
  replace kn := kn.step h11
  refine sw_fld F 1 ⟨rfl, rfl, rfl⟩ rfl (by kernel_rfl) rfl rfl fun A F => ?_
  refine sw_set F M 0 ⟨rfl, rfl, rfl⟩ rfl rfl rfl (by kernel_rfl) rfl rfl rfl fun w M => ?_
  simp only [List.set_cons_zero, List.set_cons_succ] at M
  refine sw_end ?_
  show Code.wp _ _ _ _ _
  refine sw_seq ?_
  refine sw_reg ?_
  refine sw_move F ⟨rfl, rfl, rfl⟩ rfl rfl fun A F => ?_
  refine sw_call0 (take_m [45, 62] b S10) F M ⟨rfl, rfl, rfl⟩ rfl rfl ?_
  rintro _ S13 A w ⟨_, h14⟩ F M
  replace kn := kn.step h14
  refine sw_end ?_
  show Code.wp _ _ _ _ _
  refine sw_seq ?_
  refine sw_reg ?_
  refine sw_move F ⟨rfl, rfl, rfl⟩ rfl rfl fun A F => ?_
  refine sw_call0 (kind_m b S13) F M ⟨rfl, rfl, rfl⟩ rfl rfl ?_
  rintro _ S15 A w ⟨_, k17, rfl, hkk17, h16⟩ F M
  replace kn := kn.step h16
  refine sw_fld F 2 ⟨rfl, rfl, rfl⟩ rfl (by kernel_rfl) rfl rfl fun A F => ?_
  refine sw_set F M 0 ⟨rfl, rfl, rfl⟩ rfl rfl rfl (by kernel_rfl) rfl rfl rfl fun w M => ?_
  simp only [List.set_cons_zero, List.set_cons_succ] at M
  refine sw_end ?_
  show Code.wp _ _ _ _ _
  refine sw_seq ?_
  refine sw_reg ?_
  refine sw_move F ⟨rfl, rfl, rfl⟩ rfl rfl fun A F => ?_
  refine sw_call0 (take_m [59] b S15) F M ⟨rfl, rfl, rfl⟩ rfl rfl ?_
  rintro _ S18 A w ⟨_, h19⟩ F M
  replace kn := kn.step h19
  refine sw_end ?_
  show Code.wp _ _ _ _ _
  refine sw_seq ?_
  refine sw_reg ?_
  refine sw_all F M 0 ⟨rfl, rfl, rfl⟩ rfl rfl (by kernel_rfl) (by kernel_rfl) rfl fun A F => ?_
  refine sw_setAll F M 1 ⟨rfl, rfl, rfl⟩ rfl rfl rfl (by kernel_rfl) rfl rfl fun w M => ?_
  simp only [List.set_cons_zero, List.set_cons_succ] at M
  refine sw_end ?_
  show Code.wp _ _ _ _ _
  refine wp_ret ?_
  repeat (first | refine then_ret ?_ | refine block_ret ?_)
  exact sw_retbox F M 1 Tryd.results48 rfl rfl (by kernel_rfl) (by kernel_rfl) ⟨_, [.s s6, .i k12, .i k17], S18, rfl, M.but, M.st, lie_cons (trivial) (lie_cons (lie_i (n := k12) (by omega)) (lie_cons (lie_i (n := k17) (by omega)) (lie_nil _ _))), s6, k12, k17, rfl, rfl, hkk12, hkk17, kn.fin⟩
set_option maxRecDepth 8000 in
set_option maxHeartbeats 3200000 in
theorem commaP_m (b : Nat) (S : ES) : Meth Tryd.prog (RdX b) (fun k => k = b) 58 [ptr b, .func (.func 47) #[ptr b] #[]] S (BlP paramsM S) := by
  refine ⟨by kernel_rfl, fun wO R _ => ?_⟩
  have M := rd_begin R
  have kn := Kn.here (F := paramsM) (S := S)
  refine sw_fn Tryd.func58 rfl 25 Tryd.ntmps58 rfl fun A F => ?_
  refine sw_seq ?_
  refine sw_reg ?_
  refine sw_asg F ⟨rfl, rfl, rfl⟩ rfl rfl fun A F => ?_
  refine sw_end ?_
  show Code.wp _ _ _ _ _
  refine sw_seq ?_
  refine sw_seq ?_
  refine sw_reg ?_
  refine sw_move F ⟨rfl, rfl, rfl⟩ rfl rfl fun A F => ?_
  refine sw_call0 (is_m [41] b S) F M ⟨rfl, rfl, rfl⟩ rfl rfl ?_
  rintro _ _ A w ⟨_, rfl, rfl⟩ F M
  replace kn := kn.step (Rv.of (rel_is [41] S))
  refine sw_end ?_
  show Code.wp _ _ _ _ _
  refine sw_cond F rfl (fun hc1 => ?_) (fun hc1 => ?_)
  · skip
    replace kn := kn.ifT_true hc1
    rw [hc1] at F
    refine sw_seq ?_
    refine sw_reg ?_
    refine sw_asg F ⟨rfl, rfl, rfl⟩ rfl rfl fun A F => ?_
    refine sw_end ?_
    show Code.wp _ _ _ _ _
    refine wp_ret ?_
    repeat (first | refine then_ret ?_ | refine block_ret ?_)
    exact sw_rettmp F Tryd.results58 rfl ⟨_, [.l none 0 []], S, rfl, M.but, M.st, lie_cons (lies_nil _ _) (lie_nil _ _), none, 0, [], rfl, rfl, kn.fin⟩
  · skip
    replace kn := kn.ifT_false hc1
    rw [hc1] at F
    refine wp_skip ?_
    show Code.wp _ _ _ _ _
    refine sw_seq ?_
    refine sw_reg ?_
    refine sw_move F ⟨rfl, rfl, rfl⟩ rfl rfl fun A F => ?_
    refine sw_callv (v0 := [ptr b]) (vs := []) (param_m b S) F M ⟨rfl, rfl, rfl⟩ rfl rfl rfl ?_
    rintro _ _ S2 A w ⟨s4, k5, rfl, rfl, hkk5, h3⟩ F M
    replace kn := kn.step h3
    refine sw_mkrow (ety := 65) (sz := 2) (z := .agg #[.string ⟨#[]⟩, .int .i64 0]) F M _ [[.s s4, .i k5]] ⟨rfl, rfl, rfl⟩ rfl (by kernel_rfl) (by kernel_rfl) rfl (by kernel_rfl) rfl ?_ ?_ rfl fun x7 A w F M => ?_
    · intro g hg
      simp only [List.mem_cons, List.not_mem_nil, or_false] at hg
      rcases hg with rfl
      · exact ⟨rfl, (M.mem.vals 0 rfl).1⟩
    · intro i f b hf hm g hg
      simp only [List.mem_cons, List.not_mem_nil, or_false] at hg
      rcases hg with rfl
      · exact (M.mem.vals 0 rfl).2 i f b hf hm
    refine sw_asg F ⟨rfl, rfl, rfl⟩ rfl rfl fun A F => ?_
    refine sw_end ?_
    show Code.wp _ _ _ _ _
    refine sw_seq ?_
    refine wp_block ?_
    replace M := M.drop 1 rfl
    have hmost := M.st.most
    refine wp_loop (fun A wv => ∃ la lc es Sv, Fm 25 [(5, .slice la es.length lc), (0, ptr b), (1, .func (.func 47) #[ptr b] #[])] A ∧ Mm (RdX b) (fun k => k = b) wO [.row (.slice la es.length lc) 65 2 es] Sv wv ∧ Kn paramsM S (fun n => parsM n (pvRows es)) Sv ∧ es.length + lf Sv ≤ 32786) (fun _ wv => wl wv b) ?_ ?_
    · exact ⟨_, _, [[.s s4, .i k5]], S2, F.keep [5, 0, 1] rfl, M, kn, by have := lf_le S2; simp only [List.length_singleton]; omega⟩
    rintro A wr ⟨la, lc, es, Sv, F, M, kl, hlen⟩
    have hwl := M.st.wl
    replace kl := kl.succ.to (parsM_succ _)
    refine sw_seq ?_
    refine sw_seq ?_
    refine sw_reg ?_
    refine sw_move F ⟨rfl, rfl, rfl⟩ rfl rfl fun A F => ?_
    refine sw_call0 (is_m [44] b Sv) F M ⟨rfl, rfl, rfl⟩ rfl rfl ?_
    rintro _ _ A w ⟨_, rfl, rfl⟩ F M
    replace kl := kl.step (Rv.of (rel_is [44] Sv))
    refine sw_end ?_
    show Code.wp _ _ _ _ _
    refine sw_cond F rfl (fun hst => ?_) (fun hst => ?_)
    · skip
      replace kl := kl.ifT_true hst
      replace kl := kl.to (G' := fun n => bnd (roomT (es.length : Int) 8) fun _ => bnd (takeT [44]) fun _ => bnd paramT fun p => parsM n (pvRows es ++ [paP p])) fun n => by rw [pvRows_len]
      refine wp_skip ?_
      show Code.wp _ _ _ _ _
      refine wp_block ?_
      refine sw_seq ?_
      refine sw_reg ?_
      refine sw_move F ⟨rfl, rfl, rfl⟩ rfl rfl fun A F => ?_
      refine sw_move F ⟨rfl, rfl, rfl⟩ rfl rfl fun A F => ?_
      refine sw_len F ⟨rfl, rfl, rfl⟩ rfl (Tryd.underlying22) rfl fun A F => ?_
      refine sw_call0 (room_m (es.length : Int) 8 b Sv) F M ⟨rfl, rfl, rfl⟩ rfl rfl ?_
      rintro _ S9 A w ⟨_, h10⟩ F M
      replace kl := kl.step h10
      refine sw_end ?_
      show Code.wp _ _ _ _ _
      refine sw_seq ?_
      refine sw_reg ?_
      refine sw_move F ⟨rfl, rfl, rfl⟩ rfl rfl fun A F => ?_
      refine sw_call0 (take_m [44] b S9) F M ⟨rfl, rfl, rfl⟩ rfl rfl ?_
      rintro _ S11 A w ⟨_, h12⟩ F M
      replace kl := kl.step h12
      refine sw_end ?_
      show Code.wp _ _ _ _ _
      refine sw_reg ?_
      refine sw_move F ⟨rfl, rfl, rfl⟩ rfl rfl fun A F => ?_
      refine sw_move F ⟨rfl, rfl, rfl⟩ rfl rfl fun A F => ?_
      refine sw_callv (v0 := [ptr b]) (vs := []) (param_m b S11) F M ⟨rfl, rfl, rfl⟩ rfl rfl rfl ?_
      rintro _ _ S13 A w ⟨s15, k16, rfl, rfl, hkk16, h14⟩ F M
      replace kl := kl.step h14
      refine sw_app1 (z := .agg #[.string ⟨#[]⟩, .int .i64 0]) F M 1 0 ⟨rfl, rfl, rfl⟩ ⟨rfl, rfl, rfl⟩ rfl rfl (fun _ => rfl) rfl rfl (by kernel_rfl) (by kernel_rfl) rfl rfl (by kernel_rfl) rfl (by omega) rfl fun la18 lc19 _ A w F M => ?_
      simp only [List.set_cons_zero, List.set_cons_succ] at M
      refine sw_asg F ⟨rfl, rfl, rfl⟩ rfl rfl fun A F => ?_
      refine sw_end ?_
      replace M := M.tl
      have hlt : lf S13 < lf Sv := lf_comma hst h10 h12 h14
      show _ ∧ _
      refine ⟨⟨_, _, es ++ [[Fld.s s15, Fld.i k16]], S13, F.keep [5, 0, 1] rfl, M, kl.to fun n => by rw [pvRows_app]; rfl, by rw [List.length_append, List.length_singleton]; omega⟩, ?_⟩
      rw [M.st.wl, hwl]
      exact hlt
    · skip
      replace kl := kl.ifT_false hst
      refine wp_exit ?_
      show Code.wp _ _ _ _ _
      refine sw_seq ?_
      refine sw_reg ?_
      refine sw_move F ⟨rfl, rfl, rfl⟩ rfl rfl fun A F => ?_
      refine sw_asg F ⟨rfl, rfl, rfl⟩ rfl rfl fun A F => ?_
      refine sw_end ?_
      show Code.wp _ _ _ _ _
      refine wp_ret ?_
      repeat (first | refine then_ret ?_ | refine block_ret ?_)
      exact sw_rettmp F Tryd.results58 rfl ⟨_, [.l la lc es], Sv, rfl, M.but, M.st, lie_cons (M.mem.rowlie 0 rfl) (lie_nil _ _), la, lc, es, rfl, rfl, kl.fin⟩
def fnF (s : Key) (o : Bool) (pa : Option Addr) (pc : Nat) (ps : List (List Fld)) (k : Int) (ba : Option Addr) (bc : Nat) (bs : List (List Fld)) : List Fld := [.s s, .b o, .l pa pc ps, .i k, .l ba bc bs]
set_option maxRecDepth 8000 in
set_option maxHeartbeats 3200000 in
theorem fn_m (b : Nat) (S : ES) : Meth Tryd.prog (RdX b) (fun k => k = b) 49 [ptr b] S (fun v fs S' => ∃ s o pa pc ps k ba bc bs, fs = fnF s o pa pc ps k ba bc bs ∧ v = .agg (fs.map Fld.val).toArray ∧ Rv fnM S (pvAll fs) S') := by
  refine ⟨by kernel_rfl, fun wO R _ => ?_⟩
  have M := rd_begin R
  have kn := Kn.here (F := fnM) (S := S)
  refine sw_fn Tryd.func49 rfl 34 Tryd.ntmps49 rfl fun A F => ?_
  refine sw_seq ?_
  refine sw_reg ?_
  refine sw_alloc F M [.string ⟨#[]⟩, .bool false, .slice none 0 0, .int .i64 0, .slice none 0 0] ⟨rfl, rfl, rfl⟩ (by kernel_rfl) rfl fun x1 A w F M => ?_
  refine sw_end ?_
  show Code.wp _ _ _ _ _
  refine sw_seq ?_
  refine sw_reg ?_
  refine sw_move F ⟨rfl, rfl, rfl⟩ rfl rfl fun A F => ?_
  refine sw_call0 (is_m [111, 112, 101, 110] b S) F M ⟨rfl, rfl, rfl⟩ rfl rfl ?_
  rintro _ _ A w ⟨_, rfl, rfl⟩ F M
  replace kn := kn.step (Rv.of (rel_is [111, 112, 101, 110] S))
  refine sw_build F _ [.string ⟨#[]⟩, .bool (stands [111, 112, 101, 110] S), .slice none 0 0, .int .i64 0, .slice none 0 0] ⟨rfl, rfl, rfl⟩ rfl (by kernel_rfl) rfl fun A F => ?_
  refine sw_alloc F M [.string ⟨#[]⟩, .bool false, .slice none 0 0, .int .i64 0, .slice none 0 0] ⟨rfl, rfl, rfl⟩ (by kernel_rfl) rfl fun x2 A w F M => ?_
  refine sw_setAll F M 0 ⟨rfl, rfl, rfl⟩ rfl rfl rfl (by kernel_rfl) rfl rfl fun w M => ?_
  simp only [List.set_cons_zero, List.set_cons_succ] at M
  refine sw_end ?_
  show Code.wp _ _ _ _ _
  refine sw_seq ?_
  refine sw_seq ?_
  refine sw_reg ?_
  refine sw_fld F 1 ⟨rfl, rfl, rfl⟩ rfl (by kernel_rfl) rfl rfl fun A F => ?_
  refine sw_cell F M 0 ⟨rfl, rfl, rfl⟩ rfl rfl rfl (by kernel_rfl) rfl fun A F => ?_
  refine sw_end ?_
  show Code.wp _ _ _ _ _
  refine sw_cond F rfl (fun hc => ?_) (fun hc => ?_)
  · skip
    replace kn := kn.bif_true hc
    refine sw_reg ?_
    refine sw_move F ⟨rfl, rfl, rfl⟩ rfl rfl fun A F => ?_
    refine sw_call0 (take_m [111, 112, 101, 110] b S) F M ⟨rfl, rfl, rfl⟩ rfl rfl ?_
    rintro _ S3 A w ⟨_, h4⟩ F M
    replace kn := kn.step h4
    refine sw_end ?_
    show Code.wp _ _ _ _ _
    refine sw_seq ?_
    refine sw_reg ?_
    refine sw_move F ⟨rfl, rfl, rfl⟩ rfl rfl fun A F => ?_
    refine sw_call0 (take_m [102, 110] b S3) F M ⟨rfl, rfl, rfl⟩ rfl rfl ?_
    rintro _ S5 A w ⟨_, h6⟩ F M
    replace kn := kn.step h6
    refine sw_end ?_
    show Code.wp _ _ _ _ _
    refine sw_seq ?_
    refine sw_reg ?_
    refine sw_move F ⟨rfl, rfl, rfl⟩ rfl rfl fun A F => ?_
    refine sw_call0 (name_m b S5) F M ⟨rfl, rfl, rfl⟩ rfl rfl ?_
    rintro _ S7 A w ⟨_, s9, rfl, h8⟩ F M
    replace kn := kn.step h8
    refine sw_fld F 0 ⟨rfl, rfl, rfl⟩ rfl (by kernel_rfl) rfl rfl fun A F => ?_
    refine sw_set F M 0 ⟨rfl, rfl, rfl⟩ rfl rfl rfl (by kernel_rfl) rfl rfl rfl fun w M => ?_
    simp only [List.set_cons_zero, List.set_cons_succ] at M
    refine sw_end ?_
    show Code.wp _ _ _ _ _
    refine sw_seq ?_
    refine sw_reg ?_
    refine sw_move F ⟨rfl, rfl, rfl⟩ rfl rfl fun A F => ?_
    refine sw_call0 (take_m [40] b S7) F M ⟨rfl, rfl, rfl⟩ rfl rfl ?_
    rintro _ S10 A w ⟨_, h11⟩ F M
    replace kn := kn.step h11
    refine sw_end ?_
    show Code.wp _ _ _ _ _
    refine sw_seq ?_
    refine sw_reg ?_
    refine sw_move F ⟨rfl, rfl, rfl⟩ rfl rfl fun A F => ?_
    refine sw_move F ⟨rfl, rfl, rfl⟩ rfl rfl fun A F => ?_
    refine sw_mkf F ⟨rfl, rfl, rfl⟩ rfl rfl rfl fun A F => ?_
    refine sw_call (commaP_m b S10) F M ⟨rfl, rfl, rfl⟩ rfl rfl ?_
    rintro _ _ S12 A w ⟨la13, lc13, es13, rfl, rfl, h13⟩ F M
    replace kn := kn.step h13
    refine sw_fld F 2 ⟨rfl, rfl, rfl⟩ rfl (by kernel_rfl) rfl rfl fun A F => ?_
    refine sw_set F M 1 ⟨rfl, rfl, rfl⟩ rfl rfl rfl (by kernel_rfl) rfl rfl rfl fun w M => ?_
    simp only [List.set_cons_zero, List.set_cons_succ] at M
    refine sw_end ?_
    show Code.wp _ _ _ _ _
    refine sw_seq ?_
    refine sw_reg ?_
    refine sw_move F ⟨rfl, rfl, rfl⟩ rfl rfl fun A F => ?_
    refine sw_call0 (take_m [41] b S12) F M ⟨rfl, rfl, rfl⟩ rfl rfl ?_
    rintro _ S15 A w ⟨_, h16⟩ F M
    replace kn := kn.step h16
    refine sw_end ?_
    show Code.wp _ _ _ _ _
    refine sw_seq ?_
    refine sw_reg ?_
    refine sw_move F ⟨rfl, rfl, rfl⟩ rfl rfl fun A F => ?_
    refine sw_call0 (take_m [45, 62] b S15) F M ⟨rfl, rfl, rfl⟩ rfl rfl ?_
    rintro _ S17 A w ⟨_, h18⟩ F M
    replace kn := kn.step h18
    refine sw_end ?_
    show Code.wp _ _ _ _ _
    refine sw_seq ?_
    refine sw_reg ?_
    refine sw_move F ⟨rfl, rfl, rfl⟩ rfl rfl fun A F => ?_
    refine sw_call0 (kind_m b S17) F M ⟨rfl, rfl, rfl⟩ rfl rfl ?_
    rintro _ S19 A w ⟨_, k21, rfl, hkk21, h20⟩ F M
    replace kn := kn.step h20
    refine sw_fld F 3 ⟨rfl, rfl, rfl⟩ rfl (by kernel_rfl) rfl rfl fun A F => ?_
    refine sw_set F M 1 ⟨rfl, rfl, rfl⟩ rfl rfl rfl (by kernel_rfl) rfl rfl rfl fun w M => ?_
    simp only [List.set_cons_zero, List.set_cons_succ] at M
    refine sw_end ?_
    show Code.wp _ _ _ _ _
    refine sw_seq ?_
    refine sw_reg ?_
    refine sw_move F ⟨rfl, rfl, rfl⟩ rfl rfl fun A F => ?_
    refine sw_call (block_m b S19) F M ⟨rfl, rfl, rfl⟩ rfl rfl ?_
    rintro _ _ S22 A w ⟨la23, lc23, es23, rfl, rfl, h23⟩ F M
    replace kn := kn.step h23
    refine sw_fld F 4 ⟨rfl, rfl, rfl⟩ rfl (by kernel_rfl) rfl rfl fun A F => ?_
    refine sw_set F M 2 ⟨rfl, rfl, rfl⟩ rfl rfl rfl (by kernel_rfl) rfl rfl rfl fun w M => ?_
    simp only [List.set_cons_zero, List.set_cons_succ] at M
    refine sw_end ?_
    show Code.wp _ _ _ _ _
    refine sw_seq ?_
    refine sw_reg ?_
    refine sw_all F M 2 ⟨rfl, rfl, rfl⟩ rfl rfl (by kernel_rfl) (by kernel_rfl) rfl fun A F => ?_
    refine sw_setAll F M 3 ⟨rfl, rfl, rfl⟩ rfl rfl rfl (by kernel_rfl) rfl rfl fun w M => ?_
    simp only [List.set_cons_zero, List.set_cons_succ] at M
    refine sw_end ?_
    show Code.wp _ _ _ _ _
    refine wp_ret ?_
    repeat (first | refine then_ret ?_ | refine block_ret ?_)
    exact sw_retbox F M 3 Tryd.results49 rfl rfl (by kernel_rfl) (by kernel_rfl) ⟨_, fnF s9 ((stands [111, 112, 101, 110] S)) la13 lc13 es13 k21 la23 lc23 es23, S22, rfl, M.but, M.st, lie_cons (trivial) (lie_cons (trivial) (lie_cons (M.mem.vallie 1 rfl) (lie_cons (lie_i (n := k21) (by omega)) (lie_cons (M.mem.vallie 0 rfl) (lie_nil _ _))))), s9, ((stands [111, 112, 101, 110] S)), la13, lc13, es13, k21, la23, lc23, es23, rfl, rfl, kn.fin⟩
  · skip
    replace kn := kn.bif_false hc
    refine wp_skip ?_
    show Code.wp _ _ _ _ _
    refine sw_seq ?_
    refine sw_reg ?_
    refine sw_move F ⟨rfl, rfl, rfl⟩ rfl rfl fun A F => ?_
    refine sw_call0 (take_m [102, 110] b S) F M ⟨rfl, rfl, rfl⟩ rfl rfl ?_
    rintro _ S25 A w ⟨_, h26⟩ F M
    replace kn := kn.step h26
    refine sw_end ?_
    show Code.wp _ _ _ _ _
    refine sw_seq ?_
    refine sw_reg ?_
    refine sw_move F ⟨rfl, rfl, rfl⟩ rfl rfl fun A F => ?_
    refine sw_call0 (name_m b S25) F M ⟨rfl, rfl, rfl⟩ rfl rfl ?_
    rintro _ S27 A w ⟨_, s29, rfl, h28⟩ F M
    replace kn := kn.step h28
    refine sw_fld F 0 ⟨rfl, rfl, rfl⟩ rfl (by kernel_rfl) rfl rfl fun A F => ?_
    refine sw_set F M 0 ⟨rfl, rfl, rfl⟩ rfl rfl rfl (by kernel_rfl) rfl rfl rfl fun w M => ?_
    simp only [List.set_cons_zero, List.set_cons_succ] at M
    refine sw_end ?_
    show Code.wp _ _ _ _ _
    refine sw_seq ?_
    refine sw_reg ?_
    refine sw_move F ⟨rfl, rfl, rfl⟩ rfl rfl fun A F => ?_
    refine sw_call0 (take_m [40] b S27) F M ⟨rfl, rfl, rfl⟩ rfl rfl ?_
    rintro _ S30 A w ⟨_, h31⟩ F M
    replace kn := kn.step h31
    refine sw_end ?_
    show Code.wp _ _ _ _ _
    refine sw_seq ?_
    refine sw_reg ?_
    refine sw_move F ⟨rfl, rfl, rfl⟩ rfl rfl fun A F => ?_
    refine sw_move F ⟨rfl, rfl, rfl⟩ rfl rfl fun A F => ?_
    refine sw_mkf F ⟨rfl, rfl, rfl⟩ rfl rfl rfl fun A F => ?_
    refine sw_call (commaP_m b S30) F M ⟨rfl, rfl, rfl⟩ rfl rfl ?_
    rintro _ _ S32 A w ⟨la33, lc33, es33, rfl, rfl, h33⟩ F M
    replace kn := kn.step h33
    refine sw_fld F 2 ⟨rfl, rfl, rfl⟩ rfl (by kernel_rfl) rfl rfl fun A F => ?_
    refine sw_set F M 1 ⟨rfl, rfl, rfl⟩ rfl rfl rfl (by kernel_rfl) rfl rfl rfl fun w M => ?_
    simp only [List.set_cons_zero, List.set_cons_succ] at M
    refine sw_end ?_
    show Code.wp _ _ _ _ _
    refine sw_seq ?_
    refine sw_reg ?_
    refine sw_move F ⟨rfl, rfl, rfl⟩ rfl rfl fun A F => ?_
    refine sw_call0 (take_m [41] b S32) F M ⟨rfl, rfl, rfl⟩ rfl rfl ?_
    rintro _ S35 A w ⟨_, h36⟩ F M
    replace kn := kn.step h36
    refine sw_end ?_
    show Code.wp _ _ _ _ _
    refine sw_seq ?_
    refine sw_reg ?_
    refine sw_move F ⟨rfl, rfl, rfl⟩ rfl rfl fun A F => ?_
    refine sw_call0 (take_m [45, 62] b S35) F M ⟨rfl, rfl, rfl⟩ rfl rfl ?_
    rintro _ S37 A w ⟨_, h38⟩ F M
    replace kn := kn.step h38
    refine sw_end ?_
    show Code.wp _ _ _ _ _
    refine sw_seq ?_
    refine sw_reg ?_
    refine sw_move F ⟨rfl, rfl, rfl⟩ rfl rfl fun A F => ?_
    refine sw_call0 (kind_m b S37) F M ⟨rfl, rfl, rfl⟩ rfl rfl ?_
    rintro _ S39 A w ⟨_, k41, rfl, hkk41, h40⟩ F M
    replace kn := kn.step h40
    refine sw_fld F 3 ⟨rfl, rfl, rfl⟩ rfl (by kernel_rfl) rfl rfl fun A F => ?_
    refine sw_set F M 1 ⟨rfl, rfl, rfl⟩ rfl rfl rfl (by kernel_rfl) rfl rfl rfl fun w M => ?_
    simp only [List.set_cons_zero, List.set_cons_succ] at M
    refine sw_end ?_
    show Code.wp _ _ _ _ _
    refine sw_seq ?_
    refine sw_reg ?_
    refine sw_move F ⟨rfl, rfl, rfl⟩ rfl rfl fun A F => ?_
    refine sw_call (block_m b S39) F M ⟨rfl, rfl, rfl⟩ rfl rfl ?_
    rintro _ _ S42 A w ⟨la43, lc43, es43, rfl, rfl, h43⟩ F M
    replace kn := kn.step h43
    refine sw_fld F 4 ⟨rfl, rfl, rfl⟩ rfl (by kernel_rfl) rfl rfl fun A F => ?_
    refine sw_set F M 2 ⟨rfl, rfl, rfl⟩ rfl rfl rfl (by kernel_rfl) rfl rfl rfl fun w M => ?_
    simp only [List.set_cons_zero, List.set_cons_succ] at M
    refine sw_end ?_
    show Code.wp _ _ _ _ _
    refine sw_seq ?_
    refine sw_reg ?_
    refine sw_all F M 2 ⟨rfl, rfl, rfl⟩ rfl rfl (by kernel_rfl) (by kernel_rfl) rfl fun A F => ?_
    refine sw_setAll F M 3 ⟨rfl, rfl, rfl⟩ rfl rfl rfl (by kernel_rfl) rfl rfl fun w M => ?_
    simp only [List.set_cons_zero, List.set_cons_succ] at M
    refine sw_end ?_
    show Code.wp _ _ _ _ _
    refine wp_ret ?_
    repeat (first | refine then_ret ?_ | refine block_ret ?_)
    exact sw_retbox F M 3 Tryd.results49 rfl rfl (by kernel_rfl) (by kernel_rfl) ⟨_, fnF s29 ((stands [111, 112, 101, 110] S)) la33 lc33 es33 k41 la43 lc43 es43, S42, rfl, M.but, M.st, lie_cons (trivial) (lie_cons (trivial) (lie_cons (M.mem.vallie 1 rfl) (lie_cons (lie_i (n := k41) (by omega)) (lie_cons (M.mem.vallie 0 rfl) (lie_nil _ _))))), s29, ((stands [111, 112, 101, 110] S)), la33, lc33, es33, k41, la43, lc43, es43, rfl, rfl, kn.fin⟩
end Go.Proofs.YtgpjlocgkdlnlaaDoor
