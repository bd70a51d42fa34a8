import Derived.Test.YthhpkjmhcolgfaaGreatDoorM14
namespace Go.Proofs.YthhpkjmhcolgfaaGreatDoor
open Go.RowKit
set_option linter.unusedVariables false
set_option linter.unusedSimpArgs false
set_option maxRecDepth 20000
set_option maxHeartbeats 8000000
theorem rv_fail {e : Int} {S S1 : ES} (h : Rv (fun _ => (failT e : PM Unit)) S () S1) : (∀ er, S = .error er → S1 = .error er) ∧ ∀ σ, S = .ok σ → S1 = .error e := by
 obtain ⟨n, h⟩ := h;have h := h n (Nat.le_refl _);exact ⟨fun er q => by subst q; exact h, fun σ q => by subst q; exact h.get_err (e := e) rfl⟩
theorem kd_fin {t : Tok} : tokK t = 101 ↔ t = .fin := by
 cases t <;> simp [tokK]
 split <;> decide
theorem kd_name {t : Tok} : tokK t = 110 ↔ ∃ s, t = .name s := by
 cases t <;> simp [tokK]
 split <;> decide
theorem wrong_a {S S1 S2 : ES} {kd n e : Int} {tx : Key} (hr : PRel S kd tx n e) (hc : (kd == 101) = true) (h1 : Rv (fun _ => (failT 1 : PM Unit)) S () S1) (h2 : Rv (fun _ => (failT 6 : PM Unit)) S1 () S2) : Rv (fun _ => (wrongT : PM Unit)) S () S2 := by
 refine Rv.of ?_
 cases S with
 | error er =>
  have q := (rv_fail h1).1 er rfl;exact (rv_fail h2).1 er q
 | ok σ =>
  have q := (rv_fail h1).2 σ rfl;have q2 := (rv_fail h2).1 1 q;subst q2;have hk : σ.now = .fin := kd_fin.1 (hr.1.symm.trans (eq_of_beq hc));refine Rel.of_err ?_;simp [wrongT, errT, hk]
theorem wrong_b {S S1 : ES} {kd n e : Int} {tx : Key} (hr : PRel S kd tx n e) (hc : (kd == 101) = false) (h1 : Rv (fun _ => (failT 6 : PM Unit)) S () S1) : Rv (fun _ => (wrongT : PM Unit)) S () S1 := by
 refine Rv.of ?_
 cases S with
 | error er => exact (rv_fail h1).1 er rfl
 | ok σ =>
  have q := (rv_fail h1).2 σ rfl;subst q
  have hk : σ.now ≠ .fin := fun q => by
   have : kd = 101 := hr.1.trans (kd_fin.2 q);rw [this] at hc;cases hc
  refine Rel.of_err ?_;simp [wrongT, errT, hk]
theorem rv_wrong {S S1 : ES} (h : Rv (fun _ => (wrongT : PM Unit)) S () S1) : (∀ er, S = .error er → S1 = .error er) ∧ ∀ σ, S = .ok σ → S1 = .error (errT σ) := by
 obtain ⟨n, h⟩ := h;have h := h n (Nat.le_refl _);exact ⟨fun er q => by subst q; exact h, fun σ q => by subst q; exact h.get_err (e := errT σ) rfl⟩
theorem rv_next_err {e : Int} {S1 : ES} (h : Rv (fun _ => nextT) (.error e) () S1) : S1 = .error e := by
 obtain ⟨n, h⟩ := h;exact h n (Nat.le_refl _)
theorem name_a {S S1 S2 : ES} {kd n e : Int} {tx : Key} (hr : PRel S kd tx n e) (hc : (kd != 110) = true) (h1 : Rv (fun _ => (wrongT : PM Unit)) S () S1) (h2 : Rv (fun _ => nextT) S1 () S2) (x : Key) : Rv (fun _ => nameT) S x S2 := by
 refine Rv.of ?_
 cases S with
 | error er =>
  have q := (rv_wrong h1).1 er rfl;subst q;exact rv_next_err h2
 | ok σ =>
  have q := (rv_wrong h1).2 σ rfl;subst q;have q2 := rv_next_err h2;subst q2;refine Rel.of_err ?_
  have hk : ¬ ∃ s, σ.now = .name s := fun q => by
   have : kd = 110 := hr.1.trans (kd_name.2 q);rw [this] at hc;cases hc
  unfold nameT
  cases hn : σ.now with
  | name s => exact absurd ⟨s, hn⟩ hk
  | _ => rfl
theorem name_b {S S1 : ES} {kd n e : Int} {tx : Key} (hr : PRel S kd tx n e) (hc : (kd != 110) = false) (h : Rv (fun _ => nextT) S () S1) : Rv (fun _ => nameT) S tx S1 := by
 cases S with
 | error er =>
  have q := rv_next_err h;subst q;exact Rv.of rfl
 | ok σ =>
  have hkd : kd = 110 := by simpa [bne] using hc
  obtain ⟨s, hs⟩ := kd_name.1 (hr.1.symm.trans hkd);have ht : tx = s := by have := hr.2.1; rw [hs] at this; exact this
  subst ht;have g : Rv (fun _ => bnd nextT fun _ => pur tx) (.ok σ) tx S1 := h.bind (Rv.of (Rel.pur tx S1));obtain ⟨n, g⟩ := g;refine Rv.of ((g n (Nat.le_refl _)).at fun τ e => ?_);injection e with e
  subst e;unfold nameT;rw [hs]
theorem bnd_unit (F : PM Unit) : (bnd F fun _ => pur ()) = F := by
 funext σ;simp only [bnd]
 cases F σ with
 | error e => rfl
 | ok p => rfl
theorem takeT_if (s : Key) : takeT s = bnd (isT s) fun c => ifT c (bnd nextT fun _ => pur ()) wrongT := by
 rw [takeT_eq, bnd_unit]
 congr 1
 funext c;cases c <;> rfl
theorem openT_if (s : Key) : openT s = bnd (isT s) fun c => ifT c (bnd deeperT fun _ => bnd nextT fun _ => pur ()) wrongT := by
 funext σ;rw [bnd_unit]
 by_cases h : σ.now = .fixed s
 ·have e1 : openT s σ = bnd deeperT (fun _ => takeT s) σ := by simp [openT, bnd, isT, h]
  have e2 : bnd (isT s) (fun c => ifT c (bnd deeperT fun _ => nextT) wrongT) σ = bnd deeperT (fun _ => nextT) σ := by simp [bnd, isT, h, ifT]
  rw [e1, e2];simp only [bnd, deeperT]
  by_cases h32 : σ.lv = 32
  ·simp only [if_pos h32]
  ·simp only [if_neg h32, takeT];rw [if_pos h]
 ·have e1 : openT s σ = .error (errT σ) := by simp [openT, bnd, isT, h, pur, takeT]
  have e2 : bnd (isT s) (fun c => ifT c (bnd deeperT fun _ => nextT) wrongT) σ = .error (errT σ) := by simp [bnd, isT, h, ifT, wrongT]
  rw [e1, e2]
def lastT (n : Int) : PM Bool := bnd (isT [44]) fun c => ifT c (bnd (roomT n 8) fun _ => bnd nextT fun _ => pur false) (pur true)
theorem room_no {n : Int} {S : ES} (hn : n ≤ 8) (h : (n == 8) = false) : Rv (fun _ => roomT n 8) S () S := by
 have : n ≠ 8 := fun e => by rw [e] at h; cases h
 refine Rv.of ?_;rw [show roomT n 8 = pur () from if_neg (by omega)];exact Rel.pur _ _
theorem room_yes {n : Int} {S S1 : ES} (h : (n == 8) = true) (g : Rv (fun _ => (failT 3 : PM Unit)) S () S1) : Rv (fun _ => roomT n 8) S () S1 := by
 have : n = 8 := eq_of_beq h;rw [show roomT n 8 = failT 3 from if_pos (by omega)];exact g
def kind3 : List Key := [[110, 117, 109], [102, 108, 97, 103], [119, 104, 111]]
theorem kind_at {k : Nat} {s : Key} {S : ES} {n : Int} (h : kind3[k]? = some s) : pickI (numbered n (kind3.drop k)) S = if stands s S then n else pickI (numbered (n + 1) (kind3.drop (k + 1))) S := by
 obtain ⟨h1, h2⟩ := List.getElem?_eq_some_iff.1 h;rw [List.drop_eq_getElem_cons h1, h2];rfl
theorem rwrong_m (text : Key) (c : C4) (b : Nat) (S : ES) : Meth Tryz.prog (PdX text c b) (fun k => k = b) 48 [ptr b] S fun v fs S' => Rv (fun _ => (wrongT : PM Unit)) S () S' := by
 refine ⟨by kernel_rfl, fun wO R _ => ?_⟩;have M := pd_begin R;refine sw_fn Tryz.func48 rfl 12 Tryz.ntmps48 rfl fun A F => ?_;refine sq (sq (rg ?_));refine mv F fun A F=>?_;refine ni F fun A F=>?_;refine fl F 2 fun A F=>?_;refine fl F 0 fun A F=>?_;obtain ⟨atz1, kdz1, txz1, nz1, lvz1, erz1, kbz1, hrz1⟩ := M.st.cells;refine sw_ext F ((kbz1.cell 2).trans rfl) ⟨rfl, rfl, rfl⟩ rfl (by kernel_rfl) rfl fun A F => ?_;refine eqi F fun A F=>?_;refine en (cd F (fun hc2=>?_) fun hc2=>?_)
 ·refine rg ?_;refine mv F fun A F=>?_;refine sw_call0 (bad_m 1 (by decide) text c b S) F M ⟨rfl, rfl, rfl⟩ rfl rfl ?_;rintro _ S3 A w ⟨_, h4⟩ F M;refine en (rg ?_);refine mv F fun A F=>?_;refine sw_call0 (bad_m 6 (by decide) text c b S3) F M ⟨rfl, rfl, rfl⟩ rfl rfl ?_;rintro _ S5 A w ⟨_, h6⟩ F M;refine sw_end ?_;repeat first|refine tn ?_|refine bn ?_
  exact sw_endnone F Tryz.results48 ⟨_, [], S5, rfl, M.but, M.st, lie_nil _ _, wrong_a hrz1 hc2 h4 h6⟩
 refine wp_skip (rg ?_);refine mv F fun A F=>?_;refine sw_call0 (bad_m 6 (by decide) text c b S) F M ⟨rfl, rfl, rfl⟩ rfl rfl ?_;rintro _ S7 A w ⟨_, h8⟩ F M;refine sw_end ?_;repeat first|refine tn ?_|refine bn ?_
 exact sw_endnone F Tryz.results48 ⟨_, [], S7, rfl, M.but, M.st, lie_nil _ _, wrong_b hrz1 hc2 h8⟩
theorem rname_m (text : Key) (c : C4) (b : Nat) (S : ES) : Meth Tryz.prog (PdX text c b) (fun k => k = b) 17 [ptr b] S fun v fs S' => ∃ x : Key, v = .string (str x) ∧ Rv (fun _ => nameT) S x S' := by
 refine ⟨by kernel_rfl, fun wO R _ => ?_⟩;have M := pd_begin R;refine sw_fn Tryz.func17 rfl 20 Tryz.ntmps17 rfl fun A F => ?_;refine sq (rg ?_);refine as1 F fun A F=>?_;refine en (sq (sq (rg ?_)));refine mv F fun A F=>?_;refine ni F fun A F=>?_;refine fl F 2 fun A F=>?_;refine fl F 0 fun A F=>?_;obtain ⟨atz1, kdz1, txz1, nz1, lvz1, erz1, kbz1, hrz1⟩ := M.st.cells;refine sw_ext F ((kbz1.cell 2).trans rfl) ⟨rfl, rfl, rfl⟩ rfl (by kernel_rfl) rfl fun A F => ?_;refine sw_neq F ⟨rfl, rfl, rfl⟩ rfl rfl rfl fun A F => ?_;refine en (cd F (fun hc2=>?_) fun hc2=>?_)
 ·refine rg ?_;refine mv F fun A F=>?_;refine sw_call0 (rwrong_m text c b S) F M ⟨rfl, rfl, rfl⟩ rfl rfl ?_;rintro _ S3 A w ⟨_, h4⟩ F M;refine en (sq (rg ?_));refine mv F fun A F=>?_;refine ni F fun A F=>?_;refine fl F 2 fun A F=>?_;refine fl F 1 fun A F=>?_;obtain ⟨atz5, kdz5, txz5, nz5, lvz5, erz5, kbz5, hrz5⟩ := M.st.cells;refine sw_ext F ((kbz5.cell 3).trans rfl) ⟨rfl, rfl, rfl⟩ rfl (by kernel_rfl) rfl fun A F => ?_;refine as1 F fun A F=>?_;refine en (sq (rg ?_));refine mv F fun A F=>?_;refine sw_call0 (rnext_m text c b S3) F M ⟨rfl, rfl, rfl⟩ rfl rfl ?_;rintro _ S6 A w ⟨_, h7⟩ F M;refine en (sq (rg ?_));refine mv F fun A F=>?_;refine as1 F fun A F=>?_;refine en (wp_ret ?_);repeat first|refine tr ?_|refine br ?_
  exact sw_rettmp F Tryz.results17 rfl ⟨_, [], S6, rfl, M.but, M.st, lie_nil _ _, txz5, rfl, name_a hrz1 hc2 h4 h7 txz5⟩
 refine wp_skip (sq (rg ?_));refine mv F fun A F=>?_;refine ni F fun A F=>?_;refine fl F 2 fun A F=>?_;refine fl F 1 fun A F=>?_;refine sw_ext F ((kbz1.cell 3).trans rfl) ⟨rfl, rfl, rfl⟩ rfl (by kernel_rfl) rfl fun A F => ?_;refine as1 F fun A F=>?_;refine en (sq (rg ?_));refine mv F fun A F=>?_;refine sw_call0 (rnext_m text c b S) F M ⟨rfl, rfl, rfl⟩ rfl rfl ?_;rintro _ S8 A w ⟨_, h9⟩ F M;refine en (sq (rg ?_));refine mv F fun A F=>?_;refine as1 F fun A F=>?_;refine en (wp_ret ?_);repeat first|refine tr ?_|refine br ?_
 exact sw_rettmp F Tryz.results17 rfl ⟨_, [], S8, rfl, M.but, M.st, lie_nil _ _, txz1, rfl, name_b hrz1 hc2 h9⟩
theorem rneed_m (s : Key) (text : Key) (c : C4) (b : Nat) (S : ES) : Meth Tryz.prog (PdX text c b) (fun k => k = b) 16 [ptr b, .string (str s)] S fun v fs S' => Rv (fun _ => takeT s) S () S' := by
 refine ⟨by kernel_rfl, fun wO R _ => ?_⟩;have M := pd_begin R;have kn := (Kn.here (F := fun _ => takeT s) (S := S)).to fun _ => takeT_if s;refine sw_fn Tryz.func16 rfl 14 Tryz.ntmps16 rfl fun A F => ?_;refine sq (rg ?_);refine mv F fun A F=>?_;refine mv F fun A F=>?_;refine sw_call0 (ris_m s text c b S) F M ⟨rfl, rfl, rfl⟩ rfl rfl ?_;rintro _ _ A w ⟨_, rfl, rfl⟩ F M;replace kn := kn.step (Rv.of (rel_is s S));refine as1 F fun A F=>?_;refine en (sq (sq (rg ?_)));refine mv F fun A F=>?_;refine sw_not F ⟨rfl, rfl, rfl⟩ rfl rfl fun A F => ?_;refine en (cd F (fun hc1=>?_) fun hc1=>?_)
 ·replace hc1 : (stands s S) = false := by simpa using hc1
  replace kn := kn.ifT_false hc1;rw [hc1] at F;refine sq (rg ?_);refine mv F fun A F=>?_;refine sw_call0 (rwrong_m text c b S) F M ⟨rfl, rfl, rfl⟩ rfl rfl ?_;rintro _ S2 A w ⟨_, h3⟩ F M;refine en (wp_ret ?_);repeat first|refine tr ?_|refine br ?_
  exact sw_retnone F Tryz.results16 ⟨_, [], S2, rfl, M.but, M.st, lie_nil _ _, kn.last h3⟩
 replace hc1 : (stands s S) = true := by simpa using hc1
 replace kn := kn.ifT_true hc1;rw [hc1] at F;refine wp_skip (rg ?_);refine mv F fun A F=>?_;refine sw_call0 (rnext_m text c b S) F M ⟨rfl, rfl, rfl⟩ rfl rfl ?_;rintro _ S4 A w ⟨_, h5⟩ F M;replace kn := kn.step h5;refine sw_end ?_;repeat first|refine tn ?_|refine bn ?_
 exact sw_endnone F Tryz.results16 ⟨_, [], S4, rfl, M.but, M.st, lie_nil _ _, kn.fin⟩
theorem deeper_0 (text : Key) (c : C4) (b at_ : Nat) (kd : Int) (tx : Key) (n lv : Int) (hl : -6000 ≤ lv ∧ lv ≤ 32) (wO : World) (kb : Blk wO b (pC text at_ kd tx n lv 0 c) 48) : Calls Tryz.prog 111 ([ptr b] : List Value).toArray wO fun e w' => e = .returned (.tuple #[]) ∧ But (fun k => k = b) wO w' ∧ ((lv ≠ 32 ∧ Blk w' b (pC text at_ kd tx n (lv + 1) 0 c) 48) ∨ (lv = 32 ∧ Blk w' b (pC text at_ kd tx n (lv + 1) 7 c) 48)) := by
 have hB := But.refl (fun k => k = b) wO;refine sw_fn Tryz.func111 rfl 16 Tryz.ntmps111 rfl fun A F => ?_;refine sq (rg ?_);refine mv F fun A F=>?_;refine ni F fun A F=>?_;refine fl F 5 fun A F=>?_;refine sw_ext F ((kb.cell 5).trans rfl) ⟨rfl, rfl, rfl⟩ rfl (by kernel_rfl) rfl fun A F => ?_;refine sw_addw F ⟨rfl, rfl, rfl⟩ rfl rfl rfl fun A F => ?_;rw [wrapJ (lv + 1) (by omega) (by omega)] at F;refine ni F fun A F=>?_;refine fl F 5 fun A F=>?_;refine sw_setX1 F ⟨rfl, rfl, rfl⟩ rfl rfl kb (by kernel_rfl) rfl rfl rfl fun w B kb => ?_;replace hB := hB.trans B;replace kb : Blk w b (pC text at_ kd tx n (lv + 1) 0 c) 48 := kb;refine en (sq (rg ?_));refine mv F fun A F=>?_;refine ni F fun A F=>?_;refine fl F 5 fun A F=>?_;refine sw_ext F ((kb.cell 5).trans rfl) ⟨rfl, rfl, rfl⟩ rfl (by kernel_rfl) rfl fun A F => ?_;refine gti F fun A F=>?_;refine en (cd F (fun hc1=>?_) fun hc1=>?_)
 ·have hlv := of_decide_eq_true hc1;refine rg ?_;refine mv F fun A F=>?_;refine sw_callR (by kernel_rfl) (bad_0 7 text c b at_ kd tx n (lv + 1) w kb) F ⟨rfl, rfl, rfl⟩ rfl rfl ?_;rintro e w ⟨rfl, B, kb⟩;replace hB := hB.trans B;refine ⟨_, rfl, fun A F => ?_⟩;refine sw_end ?_;repeat first|refine tn ?_|refine bn ?_
  first | exact sw_endnone F Tryz.results111 ⟨rfl, hB, .inl ⟨by omega, kb⟩⟩ | exact sw_endnone F Tryz.results111 ⟨rfl, hB, .inr ⟨by omega, kb⟩⟩
 have hlv := of_decide_eq_false hc1;refine wp_skip ?_;repeat first|refine tn ?_|refine bn ?_
 first | exact sw_endnone F Tryz.results111 ⟨rfl, hB, .inl ⟨by omega, kb⟩⟩ | exact sw_endnone F Tryz.results111 ⟨rfl, hB, .inr ⟨by omega, kb⟩⟩
theorem deeper_e (e0 : Int) (he : (e0 == 0) = false) (text : Key) (c : C4) (b at_ : Nat) (kd : Int) (tx : Key) (n lv : Int) (wO : World) (kb : Blk wO b (pC text at_ kd tx n lv e0 c) 48) : Calls Tryz.prog 111 ([ptr b] : List Value).toArray wO fun e w' => e = .returned (.tuple #[]) ∧ But (fun k => k = b) wO w' ∧ ∃ lv', Blk w' b (pC text at_ kd tx n lv' e0 c) 48 := by
 have hB := But.refl (fun k => k = b) wO;refine sw_fn Tryz.func111 rfl 16 Tryz.ntmps111 rfl fun A F => ?_;refine sq (rg ?_);refine mv F fun A F=>?_;refine ni F fun A F=>?_;refine fl F 5 fun A F=>?_;refine sw_ext F ((kb.cell 5).trans rfl) ⟨rfl, rfl, rfl⟩ rfl (by kernel_rfl) rfl fun A F => ?_;refine sw_addw F ⟨rfl, rfl, rfl⟩ rfl rfl rfl fun A F => ?_;refine ni F fun A F=>?_;refine fl F 5 fun A F=>?_;refine sw_setX1 F ⟨rfl, rfl, rfl⟩ rfl rfl kb (by kernel_rfl) rfl rfl rfl fun w B kb => ?_;replace hB := hB.trans B;replace kb : Blk w b (pC text at_ kd tx n (IntKind.i64.wrap (lv + 1)) e0 c) 48 := kb;refine en (sq (rg ?_));refine mv F fun A F=>?_;refine ni F fun A F=>?_;refine fl F 5 fun A F=>?_;refine sw_ext F ((kb.cell 5).trans rfl) ⟨rfl, rfl, rfl⟩ rfl (by kernel_rfl) rfl fun A F => ?_;refine gti F fun A F=>?_;refine en (cd F (fun hc1=>?_) fun hc1=>?_)
 ·refine rg ?_;refine mv F fun A F=>?_;refine sw_callR (by kernel_rfl) (bad_1 7 e0 he text c b at_ kd tx n (IntKind.i64.wrap (lv + 1)) w kb) F ⟨rfl, rfl, rfl⟩ rfl rfl ?_;rintro e w ⟨rfl, B, kb⟩;replace hB := hB.trans B;refine ⟨_, rfl, fun A F => ?_⟩;refine sw_end ?_;repeat first|refine tn ?_|refine bn ?_
  exact sw_endnone F Tryz.results111 ⟨rfl, hB, _, kb⟩
 refine wp_skip ?_;repeat first|refine tn ?_|refine bn ?_
 exact sw_endnone F Tryz.results111 ⟨rfl, hB, _, kb⟩
theorem mu_ge (σ : St) : 0 ≤ (mu σ : Int) := by omega
theorem rdeeper_m (text : Key) (c : C4) (b : Nat) (S : ES) : Meth Tryz.prog (PdX text c b) (fun k => k = b) 111 [ptr b] S fun v fs S' => Rv (fun _ => deeperT) S () S' := by
 refine ⟨by kernel_rfl, fun w R _ => ?_⟩
 cases S with
 | error e0 =>
  obtain ⟨h, a, kd, t, n, lv, k⟩ := R;refine (deeper_e e0 (by simpa using h) text c b _ _ _ _ _ w k).mono ?_;rintro e w' ⟨rfl, hB, lv', k'⟩;exact ⟨_, [], .error e0, rfl, hB, ⟨h, _, _, _, _, _, k'⟩, lie_nil _ _, Rv.of rfl⟩
 | ok σ =>
  obtain ⟨a, t, h1, h2, k, h3, h4, h5, h6⟩ := R;have := mu_ge σ;refine (deeper_0 text c b a _ _ _ _ ⟨by omega, h5⟩ w k).mono ?_;rintro e w' ⟨rfl, hB, ⟨hl, k'⟩ | ⟨hl, k'⟩⟩
  ·have hw : wrap64 (σ.lv + 1) = σ.lv + 1 := by unfold wrap64; omega
   refine ⟨_, [], .ok { σ with lv := σ.lv + 1 }, rfl, hB, ⟨a, t, h1, h2, k', h3, h4, by show σ.lv + 1 ≤ 32; omega, by show _ ≤ σ.lv + 1; have : mu { σ with lv := σ.lv + 1 } = mu σ := rfl; omega⟩, lie_nil _ _, Rv.of (Rel.of_ok ?_)⟩;simp only [deeperT, if_neg hl, hw]
  ·refine ⟨_, [], .error 7, rfl, hB, ⟨by decide, _, _, _, _, _, k'⟩, lie_nil _ _, Rv.of (Rel.of_err ?_)⟩;simp only [deeperT, if_pos hl]
theorem ropen_m (s : Key) (text : Key) (c : C4) (b : Nat) (S : ES) : Meth Tryz.prog (PdX text c b) (fun k => k = b) 79 [ptr b, .string (str s)] S fun v fs S' => Rv (fun _ => openT s) S () S' := by
 refine ⟨by kernel_rfl, fun wO R _ => ?_⟩;have M := pd_begin R;have kn := (Kn.here (F := fun _ => openT s) (S := S)).to fun _ => openT_if s;refine sw_fn Tryz.func79 rfl 16 Tryz.ntmps79 rfl fun A F => ?_;refine sq (rg ?_);refine mv F fun A F=>?_;refine mv F fun A F=>?_;refine sw_call0 (ris_m s text c b S) F M ⟨rfl, rfl, rfl⟩ rfl rfl ?_;rintro _ _ A w ⟨_, rfl, rfl⟩ F M;replace kn := kn.step (Rv.of (rel_is s S));refine as1 F fun A F=>?_;refine en (sq (sq (rg ?_)));refine mv F fun A F=>?_;refine sw_not F ⟨rfl, rfl, rfl⟩ rfl rfl fun A F => ?_;refine en (cd F (fun hc1=>?_) fun hc1=>?_)
 ·replace hc1 : (stands s S) = false := by simpa using hc1
  replace kn := kn.ifT_false hc1;rw [hc1] at F;refine sq (rg ?_);refine mv F fun A F=>?_;refine sw_call0 (rwrong_m text c b S) F M ⟨rfl, rfl, rfl⟩ rfl rfl ?_;rintro _ S2 A w ⟨_, h3⟩ F M;refine en (wp_ret ?_);repeat first|refine tr ?_|refine br ?_
  exact sw_retnone F Tryz.results79 ⟨_, [], S2, rfl, M.but, M.st, lie_nil _ _, kn.last h3⟩
 replace hc1 : (stands s S) = true := by simpa using hc1
 replace kn := kn.ifT_true hc1;rw [hc1] at F;refine wp_skip (sq (rg ?_));refine mv F fun A F=>?_;refine sw_call0 (rdeeper_m text c b S) F M ⟨rfl, rfl, rfl⟩ rfl rfl ?_;rintro _ S4 A w ⟨_, h5⟩ F M;replace kn := kn.step h5;refine en (rg ?_);refine mv F fun A F=>?_;refine sw_call0 (rnext_m text c b S4) F M ⟨rfl, rfl, rfl⟩ rfl rfl ?_;rintro _ S6 A w ⟨_, h7⟩ F M;replace kn := kn.step h7;refine sw_end ?_;repeat first|refine tn ?_|refine bn ?_
 exact sw_endnone F Tryz.results79 ⟨_, [], S6, rfl, M.but, M.st, lie_nil _ _, kn.fin⟩
theorem rlast_m (n : Nat) (hn : (n : Int) ≤ 8) (text : Key) (c : C4) (b : Nat) (S : ES) : Meth Tryz.prog (PdX text c b) (fun k => k = b) 50 [ptr b, .int .i64 n] S fun v fs S' => ∃ x : Bool, v = .bool x ∧ Rv (fun _ => lastT n) S x S' := by
 refine ⟨by kernel_rfl, fun wO R _ => ?_⟩;have M := pd_begin R;have kn := Kn.here (F := fun _ => lastT n) (S := S);refine sw_fn Tryz.func50 rfl 16 Tryz.ntmps50 rfl fun A F => ?_;refine sq (rg ?_);refine as1 F fun A F=>?_;refine en (sq (rg ?_));refine mv F fun A F=>?_;refine sw_call0 (ris_m [44] text c b S) F M ⟨rfl, rfl, rfl⟩ rfl rfl ?_;rintro _ _ A w ⟨_, rfl, rfl⟩ F M;replace kn := kn.step (Rv.of (rel_is [44] S));refine as1 F fun A F=>?_;refine en (sq (sq (rg ?_)));refine mv F fun A F=>?_;refine sw_not F ⟨rfl, rfl, rfl⟩ rfl rfl fun A F => ?_;refine en (cd F (fun hc1=>?_) fun hc1=>?_)
 ·replace hc1 : (stands [44] S) = false := by simpa using hc1
  replace kn := kn.ifT_false hc1;rw [hc1] at F;refine sq (rg ?_);refine as1 F fun A F=>?_;refine en (wp_ret ?_);repeat first|refine tr ?_|refine br ?_
  exact sw_rettmp F Tryz.results50 rfl ⟨_, [], S, rfl, M.but, M.st, lie_nil _ _, true, rfl, kn.fin⟩
 replace hc1 : (stands [44] S) = true := by simpa using hc1
 replace kn := kn.ifT_true hc1;rw [hc1] at F;refine wp_skip (sq (sq (rg ?_)));refine mv F fun A F=>?_;refine eqi F fun A F=>?_;refine en (cd F (fun hc2=>?_) fun hc2=>?_)
 ·refine rg ?_;refine mv F fun A F=>?_;refine sw_call0 (bad_m 3 (by decide) text c b S) F M ⟨rfl, rfl, rfl⟩ rfl rfl ?_;rintro _ S3 A w ⟨_, h4⟩ F M;replace kn := kn.step (room_yes (S := S) (S1 := S3) hc2 h4);refine en (sq (rg ?_));refine mv F fun A F=>?_;refine sw_call0 (rnext_m text c b S3) F M ⟨rfl, rfl, rfl⟩ rfl rfl ?_;rintro _ S5 A w ⟨_, h6⟩ F M;replace kn := kn.step h6;refine en (sq (rg ?_));refine as1 F fun A F=>?_;refine en (wp_ret ?_);repeat first|refine tr ?_|refine br ?_
  exact sw_rettmp F Tryz.results50 rfl ⟨_, [], S5, rfl, M.but, M.st, lie_nil _ _, false, rfl, kn.fin⟩
 replace kn := kn.step (room_no hn hc2);refine wp_skip (sq (rg ?_));refine mv F fun A F=>?_;refine sw_call0 (rnext_m text c b S) F M ⟨rfl, rfl, rfl⟩ rfl rfl ?_;rintro _ S7 A w ⟨_, h8⟩ F M;replace kn := kn.step h8;refine en (sq (rg ?_));refine as1 F fun A F=>?_;refine en (wp_ret ?_);repeat first|refine tr ?_|refine br ?_
 exact sw_rettmp F Tryz.results50 rfl ⟨_, [], S7, rfl, M.but, M.st, lie_nil _ _, false, rfl, kn.fin⟩
theorem rkind_m (text : Key) (c : C4) (b : Nat) (S : ES) : Meth Tryz.prog (PdX text c b) (fun k => k = b) 49 [ptr b] S fun v fs S' => ∃ k : Int, v = .int .i64 k ∧ (0 ≤ k ∧ k ≤ 3) ∧ Rv (fun _ => kindT) S k S' := by
 refine ⟨by kernel_rfl, fun wO R _ => ?_⟩;have M := pd_begin R;have kn := Kn.here (F := fun _ => kindT) (S := S);refine sw_fn Tryz.func49 rfl 24 Tryz.ntmps49 rfl fun A F => ?_;refine sq (rg ?_);refine as1 F fun A F=>?_;refine en (sq (rg ?_));refine sw_mkrow (ety := 9) (sz := 1) (z := .string ⟨#[]⟩) F M _ (kind3.map fun s => [Fld.s s]) ⟨rfl, rfl, rfl⟩ rfl (by kernel_rfl) (by kernel_rfl) rfl (by kernel_rfl) rfl ?_ ?_ rfl fun x1 A w F M => ?_
 ·intro g hg;obtain ⟨s, _, rfl⟩ := List.mem_map.1 hg;exact ⟨rfl, lie_cons trivial (lie_nil _ _)⟩
 ·intro i f b hf hm g hg;obtain ⟨s, _, rfl⟩ := List.mem_map.1 hg;intro y hy;rw [List.mem_singleton.1 hy];trivial
 refine as1 F fun A F=>?_;refine en (sq (sq (rg ?_)));refine as1 F fun A F=>?_;refine en (wp_block ?_);refine wp_loop (fun A w => ∃ k : Nat, k ≤ 3 ∧ Fm 24 [(4, .int .i64 k), (3, .slice (some ⟨x1, 0, none⟩) 3 3), (0, ptr b)] A ∧ Mm (PdX text c b) (fun k => k = b) wO [.row (.slice (some ⟨x1, 0, none⟩) 3 3) 9 1 (kind3.map fun s => [Fld.s s])] S w ∧ pickI kindW S = pickI (numbered ((k : Int) + 1) (kind3.drop k)) S) (fun A _ => 3 - (intOf (A.eval (.tmp 4))).toNat) ?_ ?_
 ·exact ⟨0, by omega, F.keep [4, 3, 0] rfl, M, rfl⟩
 rintro A w ⟨k, hk, F, M, hpk⟩;have hA : A.eval (.tmp 4) = .int .i64 (k : Int) := F.2.2 4 _ rfl;refine sq (sq (rg ?_));refine mv F fun A F=>?_;refine lsi F fun A F=>?_;refine en (cd F (fun hc2=>?_) fun hc2=>?_)
 ·have hk3 : k < 3 := by have := of_decide_eq_true hc2; omega
  obtain ⟨s, hget⟩ : ∃ s, kind3[k]? = some s := ⟨_, List.getElem?_eq_getElem (by have : kind3.length = 3 := rfl; omega)⟩;have hcell : w.cell? ⟨x1, 0 + k * 1, none⟩ = some (.string (str s)) := by rw [Nat.zero_add, Nat.mul_one]; exact (RowG.at_ (M.mem.at_ 0 _ rfl)).2.2.2 k _ (by rw [flat_words, List.getElem?_map, hget]; rfl)
  refine wp_skip (sq ?_);refine wp_block ?_;refine sq (rg ?_);refine mv F fun A F=>?_;refine mv F fun A F=>?_;refine mv F fun A F=>?_;refine sw_at F 1 ⟨rfl, rfl, rfl⟩ rfl rfl hk3 Tryz.underlying38 (by kernel_rfl) rfl fun A F => ?_;refine sw_ext F hcell ⟨rfl, rfl, rfl⟩ rfl (by kernel_rfl) rfl fun A F => ?_;refine sw_call0 (ris_m s text c b S) F M ⟨rfl, rfl, rfl⟩ rfl rfl ?_;rintro _ _ A w ⟨_, rfl, rfl⟩ F M;refine as1 F fun A F=>?_;refine en (sq (rg ?_));refine mv F fun A F=>?_;refine en (cd F (fun hc3=>?_) fun hc3=>?_)
  ·have hst := hc3;have hp : pickI kindW S = (k : Int) + 1 := by rw [hpk, kind_at hget, hst, if_pos rfl]
   replace kn := (kn.step (Rv.of (rel_pick kindW S))).ite_neg (by rw [hp]; omega);refine sq (rg ?_);refine mv F fun A F=>?_;refine sw_call0 (rnext_m text c b S) F M ⟨rfl, rfl, rfl⟩ rfl rfl ?_;rintro _ S4 A w ⟨_, h5⟩ F M;replace kn := kn.step h5;refine en (sq (rg ?_));refine mv F fun A F=>?_;refine sw_add F ⟨rfl, rfl, rfl⟩ rfl rfl (by omega) rfl fun A F => ?_;refine as1 F fun A F=>?_;refine en (wp_ret ?_);repeat first|refine tr ?_|refine br ?_
   exact sw_rettmp F Tryz.results49 rfl ⟨_, [], S4, rfl, M.but, M.st, lie_nil _ _, (k : Int) + 1, rfl, by omega, by rw [← hp]; exact kn.fin⟩
  have hst := hc3;refine wp_skip (rg ?_);refine mv F fun A F=>?_;refine sw_add F ⟨rfl, rfl, rfl⟩ rfl rfl (by omega) rfl fun A F => ?_;refine as1 F fun A F=>?_;refine sw_end ?_;show _ ∧ _;refine ⟨⟨k + 1, by omega, F.keep [4, 3, 0] rfl, M, by rw [hpk, kind_at hget, hst, if_neg Bool.false_ne_true]; rfl⟩, ?_⟩;rw [(F.keep [4, 3, 0] rfl).2.2 4 (.int .i64 ((k + 1 : Nat) : Int)) rfl, hA];simp only [intOf];omega
 have hk3 : k = 3 := by have := of_decide_eq_false hc2; omega
 refine wp_exit ?_;repeat (first | refine then_exit ?_ | refine exit_block ?_ | refine exit_pass rfl ?_)
 have hp : pickI kindW S = 0 := by rw [hpk, hk3]; rfl
 replace kn := (kn.step (Rv.of (rel_pick kindW S))).ite_pos hp;show Code.wp _ _ _ _ _;refine sq (rg ?_);refine mv F fun A F=>?_;refine sw_call0 (rwrong_m text c b S) F M ⟨rfl, rfl, rfl⟩ rfl rfl ?_;rintro _ S6 A w ⟨_, h7⟩ F M;refine en (sq (rg ?_));refine as1 F fun A F=>?_;refine en (wp_ret ?_);repeat first|refine tr ?_|refine br ?_
 exact sw_rettmp F Tryz.results49 rfl ⟨_, [], S6, rfl, M.but, M.st, lie_nil _ _, 0, rfl, by omega, kn.last (wrong_any h7)⟩
end Go.Proofs.YthhpkjmhcolgfaaGreatDoor
