import Derived.Test.YtpofgnlkhkednaaGreatDoorSB8
namespace Go.Proofs.YtpofgnlkhkednaaGreatDoor
open Go.RowKit
set_option linter.unusedVariables false
set_option linter.unusedSimpArgs false
set_option maxRecDepth 20000
set_option maxHeartbeats 8000000
theorem slot_ok {p : Key × Int} (h : paF p = true) : nt (slotV p) = 0 ∧ Gs (etk (slotV p)) := by
 obtain ⟨a, b, _⟩ := param_ok h;unfold slotV;refine ⟨by rw [nt_app, nt_app, a]; rfl, ?_⟩;rw [etk_app, etk_app];exact ((Gs.cons (gW (by decide)) Gs.nil).app b).app (Gs.cons g59 Gs.nil)
theorem map_ok {t : Key × Int × Int} (h : taF t = true) : nt (mapV t) = 0 ∧ Gs (etk (mapV t)) := by
 obtain ⟨_, _, _, q1, q2, q3⟩ := table_ev h;rw [(mapV_tk h).1];exact ⟨(mapV_tk h).2, Gs.cons (gW (by decide)) (Gs.cons (gNm q1) (Gs.cons g58 (Gs.cons (gKd q2) (Gs.cons g4562 (Gs.cons (gKd q3) (Gs.cons g59 Gs.nil))))))⟩
theorem ct_ev {c : CTr} (h : c.fm = true) : c.evs = tkn kContract ++ (tkn c.nm ++ (tkn [123] ++ ((if 32 < c.sl.length + c.tb.length ∨ 32 < c.fn.length then farV else []) ++ ((c.sl.map slotV).flatten ++ ((c.tb.map mapV).flatten ++ ((c.fn.map FT.evs).flatten ++ tkn [125])))))) := by
 unfold CTr.evs;rw [name_fm (CTr.fm_parts h).1];simp only [List.append_assoc]
 have e1 : (fun p : Key × Int => tkn [115, 108, 111, 116] ++ (paramV p ++ tkn [59])) = slotV := by
  funext p; unfold slotV; rw [List.append_assoc]
 have e2 : (fun t : Key × Int × Int => tkn [109, 97, 112] ++ (nameV t.1 ++ (tkn [58] ++ (kindV t.2.1 ++ (tkn [45, 62] ++ (kindV t.2.2 ++ tkn [59])))))) = mapV := by
  funext t; unfold mapV; simp only [List.append_assoc]
 rw [e1, e2]
theorem back_rd {c : CTr} (h : c.fm = true) (hl : lvl 0 c.evs) : ∃ r, etk c.evs = kContract :: r ∧ Rv parseM (.ok ⟨kContract ++ jn r, .none, 0⟩) c.pv (.ok (stOf [] 0)) := by
 obtain ⟨h1, h2, h3, h4⟩ := CTr.fm_parts h;have hfn : ∀ f ∈ c.fn, f.fm = true := List.all_eq_true.1 h4;have htb : ∀ f ∈ c.tb, taF f = true := List.all_eq_true.1 h3;have hsl := pa_all h2
 have nf : ¬ (32 < c.sl.length + c.tb.length ∨ 32 < c.fn.length) := by
  intro q;rw [ct_ev h, if_pos q] at hl;simp only [lvl_app, farV, lvl, false_and, and_false] at hl
 have e1 : ∀ b ∈ c.sl.map slotV, nt b = 0 ∧ Gs (etk b) := fun b hb => by
  obtain ⟨z, hz, rfl⟩ := List.mem_map.1 hb;exact slot_ok (hsl z hz)
 have e2 : ∀ b ∈ c.tb.map mapV, nt b = 0 ∧ Gs (etk b) := fun b hb => by
  obtain ⟨z, hz, rfl⟩ := List.mem_map.1 hb;exact map_ok (htb z hz)
 have e3 : ∀ b ∈ c.fn.map FT.evs, nt b = 0 ∧ Gs (etk b) := fun b hb => by
  obtain ⟨z, hz, rfl⟩ := List.mem_map.1 hb;exact ⟨(ft_ok (hfn z hz)).1, (ft_ok (hfn z hz)).2.1⟩
 rw [ct_ev h, if_neg nf] at hl ⊢;simp only [lvl_app, lvl_tkn, lvl_nil, nt_app, nt_tkn, nt_flat _ (fun b hb => (e1 b hb).1), nt_flat _ (fun b hb => (e2 b hb).1), nt_flat _ (fun b hb => (e3 b hb).1), Int.add_zero, true_and, and_true, List.nil_append, nt] at hl;have hlf : lvl 0 (c.fn.map FT.evs).flatten := hl.2.2;have t1 : Gs [[125]] := Gs.cons g125 Gs.nil;have t2 := (gs_flat _ fun b hb => (e3 b hb).2).app t1;have t3 := (gs_flat _ fun b hb => (e2 b hb).2).app t2;have t4 := (gs_flat _ fun b hb => (e1 b hb).2).app t3;have t5 := Gs.cons g123 t4;have t6 := Gs.cons (gNm h1) t5;have t7 : Gs (kContract :: _) := Gs.cons (gW (by decide)) t6
 have et : etk (tkn kContract ++ (tkn c.nm ++ (tkn [123] ++ ([] ++ ((c.sl.map slotV).flatten ++ ((c.tb.map mapV).flatten ++ ((c.fn.map FT.evs).flatten ++ tkn [125]))))))) = kContract :: c.nm :: [123] :: (etk (c.sl.map slotV).flatten ++ (etk (c.tb.map mapV).flatten ++ (etk (c.fn.map FT.evs).flatten ++ [[125]]))) := by
  simp only [etk_app, etk_tkn, List.cons_append, List.nil_append]
 rw [et];refine ⟨_, rfl, ?_⟩
 have items : Rv (fun n => itemsM n ([], [], [])) (.ok (stOf (etk (c.sl.map slotV).flatten ++ (etk (c.tb.map mapV).flatten ++ (etk (c.fn.map FT.evs).flatten ++ [[125]]))) 0)) (c.sl.map paP, c.tb.map tbV, c.fn.map FT.pv) (.ok (stOf [[125]] 0)) := by
  have k1 := slots_kn (t := []) (f := []) (lv := 0) t3 c.sl [] hsl (by simp; omega);have k2 := maps_kn (a := c.sl.map paP) (f := []) (lv := 0) t2 c.tb [] htb (by simp; omega);have k3 := fns_kn (a := c.sl.map paP) (t := c.tb.map tbV) (lv := 0) (Int.le_refl 0) t1 c.fn [] hfn (by simp; omega) hlf;simp only [List.nil_append] at k1 k2 k3;refine kn_trans k1 (kn_trans k2 k3) _ _ ?_;exact Rv.succ (rv_to (F' := fun n => bnd (isT [125]) fun e => ifT e (pur (c.sl.map paP, c.tb.map tbV, c.fn.map FT.pv)) (bnd (itemM n (c.sl.map paP, c.tb.map tbV, c.fn.map FT.pv)) fun c => itemsM n c)) (fun n => by rw [itemsM]) (yes_bind (by decide) (rv_pur _ _)))
 have g0 : Gs ([] : List Key) := Gs.nil;refine rv_to (F' := fun n => bnd nextT fun _ => bnd (bnd (takeT kContract) fun _ => bnd nameT fun s => bnd (takeT [123]) fun _ => bnd (itemsM n ([], [], [])) fun c => bnd (takeT [125]) fun _ => pur (ctP s c)) fun x => bnd endT fun _ => pur x) (fun n => rfl) ?_;refine (Rv.of (F := nextT) (Rel.of_ok (next_0 t7))).bind (Rv.bind (x := c.pv) (S1 := .ok (stOf [] 0)) ?_ ((Rv.of (F := endT) (Rel.of_ok (τ := stOf [] 0) rfl)).bind (rv_pur _ _)));exact (rd_take (by decide) t6).bind ((rd_name h1 t5).bind ((rd_take (by decide) t4).bind (Rv.bind items ((rd_take (by decide) g0).bind (rv_pur _ _)))))
theorem back_all {c : CTr} (h : c.fm = true) {s : Key} (e : endP (PS.zero.run c.evs) = (s, 0)) : Rv parseM (.ok ⟨s, .none, 0⟩) c.pv (.ok (stOf [] 0)) ∧ s.length ≤ 2048 := by
 unfold endP at e
 split at e
 ·injection e with _ e2; cases e2
 split at e
 ·injection e with _ e2; cases e2
 split at e
 ·injection e with _ e2; cases e2
 rename_i q1 q2 q3
 simp only [Bool.or_eq_true, decide_eq_true_eq, not_or] at q2;injection e with e _
 have hl : lvl 0 c.evs := run_lvl c.evs PS.zero (by simpa using q2.1) (by omega);obtain ⟨r, e1, e2⟩ := back_rd h hl
 have et : (PS.zero.run c.evs).tx = kContract ++ jn r := by
  rw [ct_ev h] at e1 ⊢
  have e3 : etk (tkn kContract ++ (tkn c.nm ++ (tkn [123] ++ ((if 32 < c.sl.length + c.tb.length ∨ 32 < c.fn.length then farV else []) ++ ((c.sl.map slotV).flatten ++ ((c.tb.map mapV).flatten ++ ((c.fn.map FT.evs).flatten ++ tkn [125]))))))) = kContract :: etk (tkn c.nm ++ (tkn [123] ++ ((if 32 < c.sl.length + c.tb.length ∨ 32 < c.fn.length then farV else []) ++ ((c.sl.map slotV).flatten ++ ((c.tb.map mapV).flatten ++ ((c.fn.map FT.evs).flatten ++ tkn [125])))))) := by
   rw [etk_app]; rfl
  rw [e3] at e1;injection e1 with _ e1
  rw [PS.run_app, ← e1];exact run_tx _ _ (by decide)
 rw [← e, et];refine ⟨e2, ?_⟩;rw [← et];omega
def Sn (σ : St) : Prop := ((∀ s, σ.now = .name s → nmB s = true) ∧ ∀ s, σ.now = .fixed s → s ≠ []) ∧ (∀ n, σ.now = .num n → 0 ≤ n ∧ n ≤ 1099511627775) ∧ 0 ≤ σ.lv ∧ σ.lv ≤ 32
theorem Sn.lv {σ : St} (h : Sn σ) (l : Int) (h0 : 0 ≤ l) (h1 : l ≤ 32) : Sn { σ with lv := l } := ⟨h.1, h.2.1, h0, h1⟩
theorem cut_name {t s r : Key} (h : cutT t = (.name s, r)) : nmB s = true := by
 cases t with
 | nil => cases h
 | cons c q =>
  rw [cutT] at h
  split at h
  ·rename_i hc
   injection h with h _
   unfold wordOf at h
   split at h
   ·cases h
   ·rename_i hw
    split at h
    ·rename_i hl
     injection h with h
     rw [h] at hw hl;have hp := spanN_pos goes c q (by simp [goes, hc]);have hg : ∀ x ∈ s, goes x = true := by rw [← h]; exact spanN_mem goes (c :: q)
     obtain ⟨k, hk⟩ : ∃ k, spanN goes (c :: q) = k + 1 := ⟨spanN goes (c :: q) - 1, by omega⟩;rw [hk, List.take_succ_cons] at h;subst h;unfold nmB;simp only [Bool.and_eq_true, decide_eq_true_eq, Bool.not_eq_true'];exact ⟨⟨⟨⟨rfl, hl⟩, hc⟩, List.all_eq_true.2 hg⟩, by simpa using hw⟩
    ·cases h
  ·split at h
   ·injection h with h _
    unfold numberOf at h
    split at h
    ·cases h
    ·split at h <;> cases h
   ·unfold signOf at h
    split at h <;> cases h
theorem cut_fixed {t s r : Key} (h : cutT t = (.fixed s, r)) : s ≠ [] := by
 cases t with
 | nil => cases h
 | cons c q =>
  rw [cutT] at h
  split at h
  ·injection h with h _
   unfold wordOf at h
   split at h
   ·rename_i hw
    injection h with h
    have := List.contains_iff_mem.1 hw;rw [h] at this;rintro rfl;exact absurd this (by decide)
   ·split at h <;> cases h
  ·split at h
   ·injection h with h _
    unfold numberOf at h
    split at h
    ·cases h
    ·split at h <;> cases h
   ·unfold signOf at h
    split at h
    ·rename_i g hg
     injection h with h _
     injection h with h
     have := sign_len g (List.mem_of_find?_eq_some hg);rintro rfl;rw [h] at this;exact absurd this (by decide)
    ·cases h
theorem next_sn {σ τ : St} {x : Unit} (h : Sn σ) (e : nextT σ = .ok (x, τ)) : Sn τ ∧ τ.lv = σ.lv := by
 have hk := cutT_ok (gap false σ.rest);have hn : ∀ s r, cutT (gap false σ.rest) = (.name s, r) → nmB s = true := fun s r q => cut_name q;have hf : ∀ s r, cutT (gap false σ.rest) = (.fixed s, r) → s ≠ [] := fun s r q => cut_fixed q;unfold nextT at e
 cases hc : cutT (gap false σ.rest) with
 | mk t r =>
  rw [hc] at e hk hn hf;have hk : t.ok := hk
  cases t with
  | none => cases e
  | fin =>
   injection e with e; injection e with _ e; subst e
   exact ⟨⟨⟨fun s q => (by cases q), fun s q => (by cases q)⟩, fun n q => (by cases q), h.2.2⟩, rfl⟩
  | name s =>
   injection e with e; injection e with _ e; subst e
   exact ⟨⟨⟨fun s' q => (by injection q with q; subst q; exact hn _ _ rfl), fun s q => (by cases q)⟩, fun n q => (by cases q), h.2.2⟩, rfl⟩
  | num n =>
   injection e with e; injection e with _ e; subst e
   exact ⟨⟨⟨fun s' q => (by cases q), fun s q => (by cases q)⟩, fun n' q => (by injection q with q; subst q; exact hk), h.2.2⟩, rfl⟩
  | fixed s =>
   injection e with e; injection e with _ e; subst e
   exact ⟨⟨⟨fun s' q => (by cases q), fun s' q => (by injection q with q; subst q; exact hf _ _ rfl)⟩, fun n q => (by cases q), h.2.2⟩, rfl⟩
def Pc {α : Type} (l1 l2 : Int) (Q : α → Prop) (F : PM α) : Prop := ∀ σ x τ, Sn σ → σ.lv = l1 → F σ = .ok (x, τ) → Sn τ ∧ τ.lv = l2 ∧ Q x
theorem Pc.bd {α β : Type} {l1 l2 l3 : Int} {R : α → Prop} {Q : β → Prop} {F : PM α} {G : α → PM β} (h : Pc l1 l2 R F) (g : ∀ x, R x → Pc l2 l3 Q (G x)) : Pc l1 l3 Q (bnd F G) := fun σ y τ s e1 e => by
 cases hF : F σ with
 | error er => simp only [bnd, hF] at e; cases e
 | ok p =>
  obtain ⟨x, σ'⟩ := p;simp only [bnd, hF] at e;obtain ⟨a, b, c⟩ := h σ x σ' s e1 hF;exact g x c σ' y τ a b e
theorem Pc.pr {α : Type} {l : Int} {Q : α → Prop} {x : α} (h : Q x) : Pc l l Q (pur x) := fun σ y τ s e1 e => by
 have e : Except.ok (x, σ) = Except.ok (y, τ) := e;injection e with e
 injection e with e e2
 subst e; subst e2;exact ⟨s, e1, h⟩
theorem Pc.fl {α : Type} {l1 l2 : Int} {Q : α → Prop} {e : Int} : Pc l1 l2 Q (failT e : PM α) := fun σ y τ _ _ q => by cases q
theorem Pc.wr {α : Type} {l1 l2 : Int} {Q : α → Prop} : Pc l1 l2 Q (wrongT : PM α) := fun σ y τ _ _ q => by cases q
theorem Pc.it {α : Type} {l1 l2 : Int} {Q : α → Prop} {c : Prop} [Decidable c] {F G : PM α} (h : c → Pc l1 l2 Q F) (g : ¬ c → Pc l1 l2 Q G) : Pc l1 l2 Q (if c then F else G) := by
 by_cases q : c
 ·rw [if_pos q]; exact h q
 ·rw [if_neg q]; exact g q
theorem Pc.iT {α : Type} {l1 l2 : Int} {Q : α → Prop} {c : Bool} {F G : PM α} (h : Pc l1 l2 Q F) (g : Pc l1 l2 Q G) : Pc l1 l2 Q (ifT c F G) := by cases c <;> assumption
theorem Pc.at {α : Type} {l1 l2 : Int} {Q : α → Prop} {F : PM α} (h : ∀ σ, Sn σ → ∃ G : PM α, Pc l1 l2 Q G ∧ G σ = F σ) : Pc l1 l2 Q F := fun σ x τ s e1 e => by
 obtain ⟨G, hG, q⟩ := h σ s;exact hG σ x τ s e1 (q.trans e)
theorem Pc.to {α : Type} {l1 l2 : Int} {Q R : α → Prop} {F : PM α} (h : Pc l1 l2 Q F) (g : ∀ x, Q x → R x) : Pc l1 l2 R F := fun σ x τ s e1 e => by
 obtain ⟨a, b, c⟩ := h σ x τ s e1 e;exact ⟨a, b, g x c⟩
def An {α : Type} : α → Prop := fun _ => True
theorem Pc.next {l : Int} : Pc l l An nextT := fun σ x τ s e1 e => by
 obtain ⟨a, b⟩ := next_sn s e;exact ⟨a, b.trans e1, trivial⟩
theorem Pc.is {l : Int} (s : Key) : Pc l l An (isT s) := fun σ x τ sn e1 e => by
 injection e with e; injection e with _ e; subst e
 exact ⟨sn, e1, trivial⟩
theorem Pc.pick {l : Int} (L : List (Int × Key)) : Pc l l (fun k => k ≠ 0 → ∃ s, (k, s) ∈ L ∧ s ≠ []) (pickT L) := fun σ x τ sn e1 e => by
 injection e with e; injection e with e0 e; subst e
 refine ⟨sn, e1, ?_⟩;rw [← e0];clear e0
 induction L with
 | nil => exact fun q => absurd rfl q
 | cons a L ih =>
  obtain ⟨k, s⟩ := a;show (if stands s (.ok σ) then k else pickI L (.ok σ)) ≠ 0 → ∃ t, ((if stands s (.ok σ) then k else pickI L (.ok σ)), t) ∈ (k, s) :: L ∧ t ≠ []
  split
  ·rename_i hst
   exact fun _ => ⟨s, List.mem_cons_self .., sn.1.2 s (of_decide_eq_true hst)⟩
  ·intro q;obtain ⟨t, ht, h2⟩ := ih q;exact ⟨t, List.mem_cons_of_mem _ ht, h2⟩
theorem Pc.take {l : Int} (s : Key) : Pc l l An (takeT s) := fun σ x τ sn e1 e => by
 unfold takeT at e
 split at e
 ·exact Pc.next σ x τ sn e1 e
 ·cases e
theorem Pc.deep {l : Int} : Pc l (l + 1) (fun _ => l < 32) deeperT := fun σ x τ sn e1 e => by
 have hl := sn.2.2;unfold deeperT at e
 split at e
 ·cases e
 ·rename_i h
  injection e with e; injection e with _ e; subst e
  have hw : wrap64 (σ.lv + 1) = l + 1 := by unfold wrap64; omega
  rw [hw];exact ⟨sn.lv _ (by omega) (by omega), rfl, by omega⟩
theorem Pc.upT {l : Int} (h0 : 0 ≤ l) : Pc (l + 1) l An upT := fun σ x τ sn e1 e => by
 have hl := sn.2.2;unfold Go.Proofs.YtpofgnlkhkednaaGreatDoor.upT at e;injection e with e; injection e with _ e; subst e
 have hw : wrap64 (σ.lv - 1) = l := by unfold wrap64; omega
 rw [hw];exact ⟨sn.lv _ h0 (by omega), rfl, trivial⟩
theorem Pc.open {l : Int} (s : Key) : Pc l (l + 1) (fun _ => l < 32) (openT s) := fun σ x τ sn e1 e => by
 by_cases h : σ.now = .fixed s
 ·have e2 : openT s σ = bnd deeperT (fun _ => takeT s) σ := by
   unfold openT;show bnd _ _ σ = _;simp only [bnd, isT, decide_eq_true h, if_true]
  rw [e2] at e;exact Pc.bd Pc.deep (fun _ q => (Pc.take s).to fun _ _ => q) σ x τ sn e1 e
 ·have e2 : openT s σ = .error (errT σ) := by
   unfold openT;show bnd _ _ σ = _;simp [bnd, isT, decide_eq_false h, pur, takeT, h]
  rw [e2] at e;cases e
theorem Pc.shut {l : Int} (h0 : 0 ≤ l) (s : Key) : Pc (l + 1) l An (shutT s) := Pc.bd (Pc.take s) fun _ _ => Pc.upT h0
theorem Pc.room {l n m : Int} : Pc l l (fun _ => n < m) (roomT n m) := Pc.it (fun _ => Pc.fl) fun h => Pc.pr (by omega)
theorem Pc.name {l : Int} : Pc l l (fun s => nmB s = true) nameT := fun σ x τ sn e1 e => by
 unfold nameT at e
 split at e
 ·rename_i s hs
  exact (Pc.bd (Q := fun s => nmB s = true) (Pc.next (l := l)) fun _ _ => Pc.pr (sn.1.1 s hs)) σ x τ sn e1 e
 ·cases e
theorem Pc.kind {l : Int} : Pc l l (fun k => 1 ≤ k ∧ k ≤ 3) kindT := Pc.bd (Pc.pick kindW) fun k hk => Pc.it (fun _ => Pc.wr) fun h0 => Pc.bd Pc.next fun _ _ => Pc.pr (by
 obtain ⟨s, hs, _⟩ := hk h0;have : ∀ p ∈ kindW, 1 ≤ p.1 ∧ p.1 ≤ 3 := by decide
 exact this _ hs)
theorem lvl_mono : ∀ (l : List PEv) {a b : Int}, a ≤ b → lvl b l → lvl a l
 | [], _, _, _, _ => trivial
 | e :: l, a, b, h, g => by
  cases e with
  | tok s => exact lvl_mono l h g
  | up => exact ⟨by have := g.1; omega, lvl_mono l (by omega) g.2⟩
  | down => exact lvl_mono l (a := a - 1) (b := b - 1) (by omega) g
  | far => exact g
  | odd => exact lvl_mono l h g
def XG (lv r : Int) (x : EV) : Prop := ∃ X : XT, X.pv = x ∧ X.fm = true ∧ lvl lv (brkV r X.op X.evs)
def XI (lv : Int) (x : EV) : Prop := ∃ X : XT, X.pv = x ∧ X.fm = true ∧ lv < 32 ∧ lvl (lv + 1) X.evs
theorem XI.to {lv r : Int} {x : EV} (h : XI lv x) : XG lv r x := by
 obtain ⟨X, e, f, h1, h2⟩ := h;refine ⟨X, e, f, ?_⟩;rw [brk_inn]
 split
 ·exact (lvl_inn (ev_all X f).nt).2 ⟨h1, h2⟩
 ·exact lvl_mono _ (by omega) h2
theorem XG.low {lv r r2 : Int} {x : EV} (h : XG lv r x) (q : r2 ≤ r) : XG lv r2 x := by
 obtain ⟨X, e, f, h⟩ := h;refine ⟨X, e, f, ?_⟩;rw [brk_inn] at h ⊢
 split
 ·rw [if_pos (by omega)] at h;exact h
 ·split at h
  ·have := (lvl_inn (ev_all X f).nt).1 h;exact lvl_mono _ (by omega) this.2
  ·exact h
theorem XG.one {lv : Int} {x : EV} (h : XG lv 1 x) : ∃ X : XT, X.pv = x ∧ X.fm = true ∧ lvl lv X.evs := by
 obtain ⟨X, e, f, h⟩ := h;rw [brk_inn, if_neg (by have := (hold_rng X.op).1; omega)] at h;exact ⟨X, e, f, h⟩
theorem XG.top {lv r : Int} {X : XT} (f : X.fm = true) (hr : r ≤ holdI X.op) (h : lvl lv X.evs) : XG lv r X.pv := ⟨X, rfl, f, by rw [brk_inn, if_neg (by omega)]; exact h⟩
def AG (lv : Int) (l : List EV) : Prop := ∃ L : List XT, L.map XT.pv = l ∧ (∀ X ∈ L, X.fm = true ∧ lvl lv X.evs) ∧ L.length ≤ 8
theorem AG.nil (lv : Int) : AG lv [] := ⟨[], rfl, fun _ h => (by cases h), Nat.zero_le _⟩
theorem AG.app {lv : Int} {l : List EV} {x : EV} (h : AG lv l) (g : XG lv 1 x) (hn : (l.length : Int) < 8) : AG lv (l ++ [x]) := by
 obtain ⟨L, e, f, n⟩ := h;obtain ⟨X, e2, f2, h2⟩ := g.one;refine ⟨L ++ [X], by simp [e, e2], fun Y hY => ?_, ?_⟩
 ·rcases List.mem_append.1 hY with q | q
  ·exact f Y q
  ·rw [List.mem_singleton.1 q]; exact ⟨f2, h2⟩
 ·rw [← e] at hn;simp at hn ⊢;omega
theorem lvl_sep {lv : Int} : ∀ l : List XT, (∀ X ∈ l, X.fm = true ∧ lvl lv X.evs) → lvl lv (sepV (l.map XT.evs))
 | [], _ => trivial
 | [X], h => (h X (by simp)).2
 | X :: Y :: l, h => by
  have E := ev_all X (h X (by simp)).1;rw [List.map_cons, List.map_cons, sep_cons];simp only [lvl_app, nt_app, E.nt, nt_tkn, lvl_tkn, Int.add_zero, and_true]
  exact ⟨(h X (by simp)).2, by
   have := lvl_sep (Y :: l) fun Z hZ => h Z (List.mem_cons_of_mem _ hZ)
   exact this⟩
theorem AG.lvl {lv : Int} {L : List XT} (h : ∀ X ∈ L, X.fm = true ∧ lvl (lv + 1) X.evs) (hn : L.length ≤ 8) (h32 : lv < 32) : Go.Proofs.YtpofgnlkhkednaaGreatDoor.lvl lv (argsV (L.map XT.evs)) := by
 rw [args_inn (by simp; omega)];refine (lvl_inn (nt_sep _ fun b hb => ?_)).2 ⟨h32, lvl_sep L h⟩;obtain ⟨z, hz, rfl⟩ := List.mem_map.1 hb;exact (ev_all z (h z hz).1).nt
theorem fms_all2 {l : List XT} (h : ∀ X ∈ l, X.fm = true) : XT.fms l = true := by rw [XT.fms_all]; exact List.all_eq_true.2 h
theorem fm_mk {op n : Int} {s : Key} {ar : List XT} (h : fmX op n s ar.length = true) (g : ∀ X ∈ ar, X.fm = true) : (XT.mk op n s ar).fm = true := by
 rw [XT.fm, h, fms_all2 g]; rfl
end Go.Proofs.YtpofgnlkhkednaaGreatDoor
