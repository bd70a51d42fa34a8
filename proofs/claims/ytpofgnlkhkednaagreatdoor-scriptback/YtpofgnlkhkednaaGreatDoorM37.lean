import Derived.Test.YtpofgnlkhkednaaGreatDoorM36
namespace Go.Proofs.YtpofgnlkhkednaaGreatDoor
open Go.RowKit
set_option linter.unusedVariables false
set_option linter.unusedSimpArgs false
set_option maxRecDepth 20000
set_option maxHeartbeats 8000000
theorem rankof_m (w0 : World) (op : Int) : Meth Tryz.prog (Bx w0) (fun _ => False) 82 [.int .i64 op] () (fun v _ _ => v = .int .i64 (holdI op)) := by
 refine ⟨by kernel_rfl, fun wO R _ => ?_⟩;have M := bx_begin R;refine sw_fn Tryz.func82 rfl 24 Tryz.ntmps82 rfl fun A F => ?_;refine sq (rg ?_);refine as1 F fun A F=>?_;refine en (sq (sq (rg ?_)));refine mv F fun A F=>?_;refine en (wp_block ?_);refine sq (rg ?_);refine eqi F fun A F=>?_;refine as1 F fun A F=>?_;refine en (cd F (fun hc1=>?_) fun hc1=>?_)
 ·have hhc1 : (op = 6) := by simpa using hc1
  rw [hc1] at F;refine sq (rg ?_);refine as1 F fun A F=>?_;refine en (wp_ret ?_);repeat first|refine tr ?_|refine br ?_
  exact sw_rettmp F Tryz.results82 rfl (ze M (by subst hhc1; rfl))
 have hhc1 : (op ≠ 6) := by simpa using hc1
 rw [hc1] at F;refine sq (rg ?_);refine eqi F fun A F=>?_;refine as1 F fun A F=>?_;refine en (cd F (fun hc2=>?_) fun hc2=>?_)
 ·have hhc2 : (op = 7) := by simpa using hc2
  rw [hc2] at F;refine sq (rg ?_);refine as1 F fun A F=>?_;refine en (wp_ret ?_);repeat first|refine tr ?_|refine br ?_
  exact sw_rettmp F Tryz.results82 rfl (ze M (by subst hhc2; rfl))
 have hhc2 : (op ≠ 7) := by simpa using hc2
 rw [hc2] at F;refine sq (rg ?_);refine eqi F fun A F=>?_;refine as1 F fun A F=>?_;refine en (cd F (fun hc3=>?_) fun hc3=>?_)
 ·have hhc3 : (op = 8) := by simpa using hc3
  rw [hc3] at F;refine sq (rg ?_);refine as1 F fun A F=>?_;refine en (wp_ret ?_);repeat first|refine tr ?_|refine br ?_
  exact sw_rettmp F Tryz.results82 rfl (ze M (by subst hhc3; rfl))
 have hhc3 : (op ≠ 8) := by simpa using hc3
 rw [hc3] at F;refine sq (sq (rg ?_));refine eqi F fun A F=>?_;refine as1 F fun A F=>?_;refine en (cd F (fun hc4=>?_) fun hc4=>?_)
 ·have hhc4 : (op = 9) := by simpa using hc4
  rw [hc4] at F;refine wp_skip (sw_true F rfl ?_);refine sq (rg ?_);refine as1 F fun A F=>?_;refine en (wp_ret ?_);repeat first|refine tr ?_|refine br ?_
  exact sw_rettmp F Tryz.results82 rfl (ze M (by subst hhc4; rfl))
 have hhc4 : (op ≠ 9) := by simpa using hc4
 rw [hc4] at F;refine sq (rg ?_);refine eqi F fun A F=>?_;refine as1 F fun A F=>?_;refine en (cd F (fun hc5=>?_) fun hc5=>?_)
 ·have hhc5 : (op = 10) := by simpa using hc5
  rw [hc5] at F;refine wp_skip (sw_true F rfl ?_);refine sq (rg ?_);refine as1 F fun A F=>?_;refine en (wp_ret ?_);repeat first|refine tr ?_|refine br ?_
  exact sw_rettmp F Tryz.results82 rfl (ze M (by subst hhc5; rfl))
 have hhc5 : (op ≠ 10) := by simpa using hc5
 rw [hc5] at F;refine sq (rg ?_);refine eqi F fun A F=>?_;refine as1 F fun A F=>?_;refine en (cd F (fun hc6=>?_) fun hc6=>?_)
 ·have hhc6 : (op = 11) := by simpa using hc6
  rw [hc6] at F;refine wp_skip (sw_true F rfl ?_);refine sq (rg ?_);refine as1 F fun A F=>?_;refine en (wp_ret ?_);repeat first|refine tr ?_|refine br ?_
  exact sw_rettmp F Tryz.results82 rfl (ze M (by subst hhc6; rfl))
 have hhc6 : (op ≠ 11) := by simpa using hc6
 rw [hc6] at F;refine sq (rg ?_);refine eqi F fun A F=>?_;refine as1 F fun A F=>?_;refine en (cd F (fun hc7=>?_) fun hc7=>?_)
 ·have hhc7 : (op = 12) := by simpa using hc7
  rw [hc7] at F;refine wp_skip (sw_true F rfl ?_);refine sq (rg ?_);refine as1 F fun A F=>?_;refine en (wp_ret ?_);repeat first|refine tr ?_|refine br ?_
  exact sw_rettmp F Tryz.results82 rfl (ze M (by subst hhc7; rfl))
 have hhc7 : (op ≠ 12) := by simpa using hc7
 rw [hc7] at F;refine sq (rg ?_);refine eqi F fun A F=>?_;refine as1 F fun A F=>?_;refine en (cd F (fun hc8=>?_) fun hc8=>?_)
 ·have hhc8 : (op = 13) := by simpa using hc8
  rw [hc8] at F;refine wp_skip (sw_true F rfl ?_);refine sq (rg ?_);refine as1 F fun A F=>?_;refine en (wp_ret ?_);repeat first|refine tr ?_|refine br ?_
  exact sw_rettmp F Tryz.results82 rfl (ze M (by subst hhc8; rfl))
 have hhc8 : (op ≠ 13) := by simpa using hc8
 rw [hc8] at F;refine rg ?_;refine eqi F fun A F=>?_;refine as1 F fun A F=>?_;refine en (cd F (fun hc9=>?_) fun hc9=>?_)
 ·have hhc9 : (op = 14) := by simpa using hc9
  rw [hc9] at F;refine sq (rg ?_);refine as1 F fun A F=>?_;refine en (wp_ret ?_);repeat first|refine tr ?_|refine br ?_
  exact sw_rettmp F Tryz.results82 rfl (ze M (by subst hhc9; rfl))
 have hhc9 : (op ≠ 14) := by simpa using hc9
 rw [hc9] at F;refine sq (sq (rg ?_));refine eqi F fun A F=>?_;refine as1 F fun A F=>?_;refine en (cd F (fun hc10=>?_) fun hc10=>?_)
 ·have hhc10 : (op = 15) := by simpa using hc10
  rw [hc10] at F;refine wp_skip (sw_true F rfl ?_);refine sq (rg ?_);refine as1 F fun A F=>?_;refine en (wp_ret ?_);repeat first|refine tr ?_|refine br ?_
  exact sw_rettmp F Tryz.results82 rfl (ze M (by subst hhc10; rfl))
 have hhc10 : (op ≠ 15) := by simpa using hc10
 rw [hc10] at F;refine rg ?_;refine eqi F fun A F=>?_;refine as1 F fun A F=>?_;refine en (cd F (fun hc11=>?_) fun hc11=>?_)
 ·have hhc11 : (op = 16) := by simpa using hc11
  rw [hc11] at F;refine sq (rg ?_);refine as1 F fun A F=>?_;refine en (wp_ret ?_);repeat first|refine tr ?_|refine br ?_
  exact sw_rettmp F Tryz.results82 rfl (ze M (by subst hhc11; rfl))
 have hhc11 : (op ≠ 16) := by simpa using hc11
 rw [hc11] at F;refine sq (sq (rg ?_));refine eqi F fun A F=>?_;refine as1 F fun A F=>?_;refine en (cd F (fun hc12=>?_) fun hc12=>?_)
 ·have hhc12 : (op = 17) := by simpa using hc12
  rw [hc12] at F;refine wp_skip (sw_true F rfl ?_);refine sq (rg ?_);refine as1 F fun A F=>?_;refine en (wp_ret ?_);repeat first|refine tr ?_|refine br ?_
  exact sw_rettmp F Tryz.results82 rfl (ze M (by subst hhc12; rfl))
 have hhc12 : (op ≠ 17) := by simpa using hc12
 rw [hc12] at F;refine sq (rg ?_);refine eqi F fun A F=>?_;refine as1 F fun A F=>?_;refine en (cd F (fun hc13=>?_) fun hc13=>?_)
 ·have hhc13 : (op = 18) := by simpa using hc13
  rw [hc13] at F;refine wp_skip (sw_true F rfl ?_);refine sq (rg ?_);refine as1 F fun A F=>?_;refine en (wp_ret ?_);repeat first|refine tr ?_|refine br ?_
  exact sw_rettmp F Tryz.results82 rfl (ze M (by subst hhc13; rfl))
 have hhc13 : (op ≠ 18) := by simpa using hc13
 rw [hc13] at F;refine rg ?_;refine eqi F fun A F=>?_;refine as1 F fun A F=>?_;refine en (cd F (fun hc14=>?_) fun hc14=>?_)
 ·have hhc14 : (op = 19) := by simpa using hc14
  rw [hc14] at F;refine sq (rg ?_);refine as1 F fun A F=>?_;refine en (wp_ret ?_);repeat first|refine tr ?_|refine br ?_
  exact sw_rettmp F Tryz.results82 rfl (ze M (by subst hhc14; rfl))
 have hhc14 : (op ≠ 19) := by simpa using hc14
 rw [hc14] at F;refine wp_skip (sq (rg ?_));refine as1 F fun A F=>?_;refine en (wp_ret ?_);repeat first|refine tr ?_|refine br ?_
 exact sw_rettmp F Tryz.results82 rfl (ze M (by unfold holdI; rw [if_neg (by omega), if_neg (by omega), if_neg (by omega), if_neg (by omega), if_neg (by omega), if_neg (by omega)]))
theorem wparam_m {W0 : World} (HT : Tabs W0) (b : Nat) (s : Key) (k : Int) (h1 : 1 ≤ k) (h3 : k ≤ 3) : WrM b W0 31 [ptr b, .agg #[.string (str s), .int .i64 k]] (tkn s ++ tkn [58] ++ tkn (kindK k)) := by
 refine ⟨by kernel_rfl, fun w0 E p w R ft => ?_⟩
 have hE : tkn s ++ tkn [58] ++ tkn (kindK k) = [s, [58], kW k].map .tok ++ [] := by
  rw [kW, if_neg (by omega)];rfl
 rw [hE] at ft;refine sw_fn Tryz.func31 rfl 13 Tryz.ntmps31 rfl fun A F => ?_;refine sq (rg ?_);refine sw_boxR F R [.string (str s), .int .i64 k] ⟨rfl, rfl, rfl⟩ rfl rfl rfl fun x1 A w F R => ?_;refine en ?_;show Code.wp _ _ _ _ _;refine wp_region_held (S := fun w' => w'.cell? ⟨x1, 0, none⟩ = some (.string (str s)) ∧ w'.cell? ⟨x1, 1, none⟩ = some (.int .i64 k) ∧ w'.cell? ⟨0, 0 + k.toNat * 1, none⟩ = some (.string (str (kW k)))) (by kernel_rfl) ?_;show wpAnyH _ _ _ _ _ _ _ _ w.drew;replace R := R.drew;have hS : w.drew.cell? ⟨x1, 0, none⟩ = some (.string (str s)) ∧ w.drew.cell? ⟨x1, 1, none⟩ = some (.int .i64 k) ∧ w.drew.cell? ⟨0, 0 + k.toNat * 1, none⟩ = some (.string (str (kW k))) := ⟨R.cell 0 rfl rfl, R.cell 0 rfl rfl, HT.kind.at (by have := HT.size; omega) R.bx (by omega) (by omega)⟩;refine dm F 0 hS fun A F=>?_;refine df F 1 0 hS fun A F=>?_;refine dc F 2 (fun _ h => h.1) hS fun A F=>?_;refine df F 3 1 hS fun A F=>?_;refine dc F 4 (fun _ h => h.2.1) hS fun A F=>?_;refine sd_garr F 5 1 (k := k.toNat) rfl ⟨rfl, rfl, rfl⟩ (by rw [show ((k.toNat : Nat) : Int) = k by omega]; rfl) (show k.toNat < 4 by omega) Tryz.underlying73 (by kernel_rfl) (by kernel_rfl) (by kernel_rfl) (by kernel_rfl) (fun _ _ _ h => h) rfl hS fun A F => ?_;refine dc F 6 (fun _ h => h.2.2) hS fun A F=>?_;clear hS;refine sd_one 7 rfl (by kernel_rfl) rfl ?_;refine sw_rowR F R [s, [58], kW k] ⟨rfl, rfl, rfl⟩ rfl rfl rfl (by kernel_rfl) rfl fun x2 A w F R => ?_;have hS : w.cell? ⟨x1, 0, none⟩ = some (.string (str s)) ∧ w.cell? ⟨x1, 1, none⟩ = some (.int .i64 k) ∧ w.cell? ⟨0, 0 + k.toNat * 1, none⟩ = some (.string (str (kW k))) := ⟨R.cell 1 rfl rfl, R.cell 1 rfl rfl, HT.kind.at (by have := HT.size; omega) R.bx (by omega) (by omega)⟩;refine sw_end ⟨hS, ?_⟩;clear hS;refine sd_one 8 rfl (by kernel_rfl) rfl ?_;refine sw_sayR F [s, [58], kW k] R ft.l ⟨rfl, rfl, rfl⟩ rfl rfl (by decide) rfl fun A w F R => ?_;have hS : w.cell? ⟨x1, 0, none⟩ = some (.string (str s)) ∧ w.cell? ⟨x1, 1, none⟩ = some (.int .i64 k) ∧ w.cell? ⟨0, 0 + k.toNat * 1, none⟩ = some (.string (str (kW k))) := ⟨R.cell 0 rfl rfl, R.cell 0 rfl rfl, HT.kind.at (by have := HT.size; omega) R.bx (by omega) (by omega)⟩;refine sw_end ⟨hS, ?_⟩;clear hS;refine wpAnyH_done (by kernel_rfl) ?_ _;repeat first|refine tn ?_|refine bn ?_
 exact sw_endnone F Tryz.results31 ⟨rfl, by rw [hE]; simpa only [PS.run_app, PS.run_cons, PS.run_nil, tkn, upV, downV, List.map_cons, List.map_nil] using R.tl⟩
theorem sepE_m (b : Nat) (W0 : World) (f : FuncId) (v0 us : List Value) (GE : List Ent → Prop) (hG : ∀ e E, GE E → GE (e :: E)) (lo : Nat) (la : Option Addr) (lc : Nat) (es : List (List Fld)) (bs : List (List PEv)) (hA : (Fld.l la lc es).lies lo W0) (hsA : ∀ d ∈ es, d.length = 4) (hbl : bs.length = es.length) (H : ∀ (k : Nat) (d : List Fld) (bk : List PEv), es[k]? = some d → bs[k]? = some bk → WrG b W0 GE f (v0 ++ [.agg (d.map Fld.val).toArray] ++ us) bk) : WrG b W0 GE 93 [ptr b, .slice la es.length lc, .func (.func f) v0.toArray us.toArray] (sepF es.length bs) := by
 refine ⟨by kernel_rfl, fun w0 E p w hGE R ft => ?_⟩;refine sw_fn Tryz.func93 rfl 28 Tryz.ntmps93 rfl fun A F => ?_;refine sq (rg ?_);refine mv F fun A F=>?_;refine mv F fun A F=>?_;refine sw_len F ⟨rfl, rfl, rfl⟩ rfl Tryz.underlying75 rfl fun A F => ?_;refine sw_callW (wroom_m b W0 (es.length : Int) 8) F R ft.l ⟨rfl, rfl, rfl⟩ rfl rfl fun A w F R => ?_;have hf1 := ft.r;generalize hp1 : p.run (if (8 : Int) < (es.length : Int) then farV else []) = p1 at R hf1;refine en (sq (rg ?_));refine mv F fun A F=>?_;refine sw_len F ⟨rfl, rfl, rfl⟩ rfl Tryz.underlying75 rfl fun A F => ?_;refine mv F fun A F=>?_;refine en (wp_block ?_);refine wp_loop (fun A w => ∃ k : Nat, k ≤ es.length ∧ Fm 28 [(14, .int .i64 (k : Int)), (13, .int .i64 (es.length : Int)), (12, .slice la es.length lc), (0, ptr b), (2, .func (.func f) v0.toArray us.toArray)] A ∧ WrS b W0 w0 E (p1.run (sepV (bs.take k))) w) (fun A _ => es.length - (intOf (A.eval (.tmp 14))).toNat) ?_ ?_
 ·exact ⟨0, Nat.zero_le _, F.keep [14, 13, 12, 0, 2] rfl, R⟩
 repeat clear F
 repeat clear R
 rintro A w ⟨k, hk, F, R⟩;have hA4 : A.eval (.tmp 14) = .int .i64 (k : Int) := F.2.2 14 _ rfl;refine sq (rg ?_);refine lsi F fun A F=>?_;refine en (sq ?_);refine cd F (fun hc1=>?_) fun hc1=>?_
 ·replace hc1 := of_decide_eq_true hc1;have hkk : k < es.length := by omega
  obtain ⟨b0, o0, dk, rfl, hdk, rk, lik, hmk⟩ := el_at hA hsA hkk;have hdl := hsA dk (List.mem_of_getElem? hdk);obtain ⟨bk, hbk⟩ : ∃ bk, bs[k]? = some bk := ⟨_, List.getElem?_eq_getElem (by omega)⟩;have hfk := sep_fit hf1 (k := k) (b := bk) hbk;refine wp_skip (sq ?_);refine wp_block ?_;refine sq (rg ?_);refine mv F fun A F=>?_;refine sw_at F 4 ⟨rfl, rfl, rfl⟩ rfl rfl hkk Tryz.underlying75 (by kernel_rfl) rfl fun A F => ?_;refine sw_rng F (cs := dk.map Fld.val) (rk w R.bx) ⟨rfl, rfl, rfl⟩ rfl (by kernel_rfl) (by rw [List.length_map, hdl]; kernel_rfl) rfl fun A F => ?_;refine sw_allocR F R [.int .i64 0, .int .i64 0, .string ⟨#[]⟩, .slice none 0 0] ⟨rfl, rfl, rfl⟩ (by kernel_rfl) rfl fun x2 A w F R => ?_;refine as1 F fun A F=>?_;refine sw_setAllR F R 0 ⟨rfl, rfl, rfl⟩ rfl rfl rfl (by rw [List.length_map, hdl]; kernel_rfl) (by rw [List.length_map, hdl]; rfl) (fldv_one dk) fun w R => ?_;simp only [List.set_cons_zero] at R;refine en (sq (sq (rg ?_)));refine mv F fun A F=>?_;refine gti F fun A F=>?_;refine en (cd F (fun hc3=>?_) fun hc3=>?_)
  ·replace hc3 := of_decide_eq_true hc3;rw [if_neg (show ¬ k = 0 by omega)] at hfk;refine rg ?_;refine mv F fun A F=>?_;refine sw_say F R [[44]] hfk.l ⟨rfl, rfl, rfl⟩ ⟨rfl, rfl, rfl⟩ rfl (fun _ => rfl) rfl rfl (by kernel_rfl) rfl fun _ A w F R => ?_;replace hfk := hfk.r;refine en (rg ?_);refine mv F fun A F=>?_;refine sw_allR F R 0 ⟨rfl, rfl, rfl⟩ rfl rfl (by kernel_rfl) (by rw [List.length_map, hdl]; kernel_rfl) rfl fun A F => ?_;refine sw_callWv (v0 := v0) (us := us) (H k dk bk hdk hbk) (hG _ _ hGE) F R hfk ⟨rfl, rfl, rfl⟩ rfl rfl rfl fun A w F R => ?_;refine en (rg ?_);refine sw_add F ⟨rfl, rfl, rfl⟩ rfl rfl (by have := lie_max hA; omega) rfl fun A F => ?_;refine mv F fun A F=>?_;refine sw_end ?_;show _ ∧ _;refine ⟨⟨k + 1, by omega, F.keep [14, 13, 12, 0, 2] rfl, by rw [sep_take hbk, if_neg (show ¬ k = 0 by omega)]; simpa only [PS.run_app, PS.run_cons, PS.run_nil, tkn, upV, downV, List.map_cons, List.map_nil] using R.tl⟩, ?_⟩;rw [(F.keep (N := 28) (L' := [(14, .int .i64 ((k + 1 : Nat) : Int))]) [14] rfl).2.2 14 (.int .i64 ((k + 1 : Nat) : Int)) rfl, hA4];simp only [intOf];omega
  replace hc3 := of_decide_eq_false hc3;rw [if_pos (show k = 0 by omega)] at hfk;rw [List.nil_append] at hfk;refine wp_skip (rg ?_);refine mv F fun A F=>?_;refine sw_allR F R 0 ⟨rfl, rfl, rfl⟩ rfl rfl (by kernel_rfl) (by rw [List.length_map, hdl]; kernel_rfl) rfl fun A F => ?_;refine sw_callWv (v0 := v0) (us := us) (H k dk bk hdk hbk) (hG _ _ hGE) F R hfk ⟨rfl, rfl, rfl⟩ rfl rfl rfl fun A w F R => ?_;refine en (rg ?_);refine sw_add F ⟨rfl, rfl, rfl⟩ rfl rfl (by have := lie_max hA; omega) rfl fun A F => ?_;refine mv F fun A F=>?_;refine sw_end ?_;show _ ∧ _;refine ⟨⟨k + 1, by omega, F.keep [14, 13, 12, 0, 2] rfl, by rw [sep_take hbk, if_pos (show k = 0 by omega)]; simpa only [PS.run_app, PS.run_cons, PS.run_nil, tkn, upV, downV, List.map_cons, List.map_nil] using R.tl⟩, ?_⟩;rw [(F.keep (N := 28) (L' := [(14, .int .i64 ((k + 1 : Nat) : Int))]) [14] rfl).2.2 14 (.int .i64 ((k + 1 : Nat) : Int)) rfl, hA4];simp only [intOf];omega
 replace hc1 := of_decide_eq_false hc1;have hkn : k = es.length := by omega
 refine wp_exit ?_;repeat (first | refine then_exit ?_ | refine exit_block ?_ | refine exit_pass rfl ?_)
 rw [hkn, ← hbl, List.take_length] at R;repeat first|refine tn ?_|refine bn ?_
 exact sw_endnone F Tryz.results93 ⟨rfl, by rw [sepF, PS.run_app, hp1]; exact R⟩
theorem sepP_m (b : Nat) (W0 : World) (f : FuncId) (v0 us : List Value) (GE : List Ent → Prop) (hG : ∀ e E, GE E → GE (e :: E)) (lo : Nat) (la : Option Addr) (lc : Nat) (es : List (List Fld)) (bs : List (List PEv)) (hA : (Fld.l la lc es).lies lo W0) (hsA : ∀ d ∈ es, d.length = 2) (hbl : bs.length = es.length) (H : ∀ (k : Nat) (d : List Fld) (bk : List PEv), es[k]? = some d → bs[k]? = some bk → WrG b W0 GE f (v0 ++ [.agg (d.map Fld.val).toArray] ++ us) bk) : WrG b W0 GE 51 [ptr b, .slice la es.length lc, .func (.func f) v0.toArray us.toArray] (sepF es.length bs) := by
 refine ⟨by kernel_rfl, fun w0 E p w hGE R ft => ?_⟩;refine sw_fn Tryz.func51 rfl 28 Tryz.ntmps51 rfl fun A F => ?_;refine sq (rg ?_);refine mv F fun A F=>?_;refine mv F fun A F=>?_;refine sw_len F ⟨rfl, rfl, rfl⟩ rfl Tryz.underlying22 rfl fun A F => ?_;refine sw_callW (wroom_m b W0 (es.length : Int) 8) F R ft.l ⟨rfl, rfl, rfl⟩ rfl rfl fun A w F R => ?_;have hf1 := ft.r;generalize hp1 : p.run (if (8 : Int) < (es.length : Int) then farV else []) = p1 at R hf1;refine en (sq (rg ?_));refine mv F fun A F=>?_;refine sw_len F ⟨rfl, rfl, rfl⟩ rfl Tryz.underlying22 rfl fun A F => ?_;refine mv F fun A F=>?_;refine en (wp_block ?_);refine wp_loop (fun A w => ∃ k : Nat, k ≤ es.length ∧ Fm 28 [(14, .int .i64 (k : Int)), (13, .int .i64 (es.length : Int)), (12, .slice la es.length lc), (0, ptr b), (2, .func (.func f) v0.toArray us.toArray)] A ∧ WrS b W0 w0 E (p1.run (sepV (bs.take k))) w) (fun A _ => es.length - (intOf (A.eval (.tmp 14))).toNat) ?_ ?_
 ·exact ⟨0, Nat.zero_le _, F.keep [14, 13, 12, 0, 2] rfl, R⟩
 repeat clear F
 repeat clear R
 rintro A w ⟨k, hk, F, R⟩;have hA4 : A.eval (.tmp 14) = .int .i64 (k : Int) := F.2.2 14 _ rfl;refine sq (rg ?_);refine lsi F fun A F=>?_;refine en (sq ?_);refine cd F (fun hc1=>?_) fun hc1=>?_
 ·replace hc1 := of_decide_eq_true hc1;have hkk : k < es.length := by omega
  obtain ⟨b0, o0, dk, rfl, hdk, rk, lik, hmk⟩ := el_at hA hsA hkk;have hdl := hsA dk (List.mem_of_getElem? hdk);obtain ⟨bk, hbk⟩ : ∃ bk, bs[k]? = some bk := ⟨_, List.getElem?_eq_getElem (by omega)⟩;have hfk := sep_fit hf1 (k := k) (b := bk) hbk;refine wp_skip (sq ?_);refine wp_block ?_;refine sq (rg ?_);refine mv F fun A F=>?_;refine sw_at F 2 ⟨rfl, rfl, rfl⟩ rfl rfl hkk Tryz.underlying22 (by kernel_rfl) rfl fun A F => ?_;refine sw_rng F (cs := dk.map Fld.val) (rk w R.bx) ⟨rfl, rfl, rfl⟩ rfl (by kernel_rfl) (by rw [List.length_map, hdl]; kernel_rfl) rfl fun A F => ?_;refine sw_allocR F R [.string ⟨#[]⟩, .int .i64 0] ⟨rfl, rfl, rfl⟩ (by kernel_rfl) rfl fun x2 A w F R => ?_;refine as1 F fun A F=>?_;refine sw_setAllR F R 0 ⟨rfl, rfl, rfl⟩ rfl rfl rfl (by rw [List.length_map, hdl]; kernel_rfl) (by rw [List.length_map, hdl]; rfl) (fldv_one dk) fun w R => ?_;simp only [List.set_cons_zero] at R;refine en (sq (sq (rg ?_)));refine mv F fun A F=>?_;refine gti F fun A F=>?_;refine en (cd F (fun hc3=>?_) fun hc3=>?_)
  ·replace hc3 := of_decide_eq_true hc3;rw [if_neg (show ¬ k = 0 by omega)] at hfk;refine rg ?_;refine mv F fun A F=>?_;refine sw_say F R [[44]] hfk.l ⟨rfl, rfl, rfl⟩ ⟨rfl, rfl, rfl⟩ rfl (fun _ => rfl) rfl rfl (by kernel_rfl) rfl fun _ A w F R => ?_;replace hfk := hfk.r;refine en (rg ?_);refine mv F fun A F=>?_;refine sw_allR F R 0 ⟨rfl, rfl, rfl⟩ rfl rfl (by kernel_rfl) (by rw [List.length_map, hdl]; kernel_rfl) rfl fun A F => ?_;refine sw_callWv (v0 := v0) (us := us) (H k dk bk hdk hbk) (hG _ _ hGE) F R hfk ⟨rfl, rfl, rfl⟩ rfl rfl rfl fun A w F R => ?_;refine en (rg ?_);refine sw_add F ⟨rfl, rfl, rfl⟩ rfl rfl (by have := lie_max hA; omega) rfl fun A F => ?_;refine mv F fun A F=>?_;refine sw_end ?_;show _ ∧ _;refine ⟨⟨k + 1, by omega, F.keep [14, 13, 12, 0, 2] rfl, by rw [sep_take hbk, if_neg (show ¬ k = 0 by omega)]; simpa only [PS.run_app, PS.run_cons, PS.run_nil, tkn, upV, downV, List.map_cons, List.map_nil] using R.tl⟩, ?_⟩;rw [(F.keep (N := 28) (L' := [(14, .int .i64 ((k + 1 : Nat) : Int))]) [14] rfl).2.2 14 (.int .i64 ((k + 1 : Nat) : Int)) rfl, hA4];simp only [intOf];omega
  replace hc3 := of_decide_eq_false hc3;rw [if_pos (show k = 0 by omega)] at hfk;rw [List.nil_append] at hfk;refine wp_skip (rg ?_);refine mv F fun A F=>?_;refine sw_allR F R 0 ⟨rfl, rfl, rfl⟩ rfl rfl (by kernel_rfl) (by rw [List.length_map, hdl]; kernel_rfl) rfl fun A F => ?_;refine sw_callWv (v0 := v0) (us := us) (H k dk bk hdk hbk) (hG _ _ hGE) F R hfk ⟨rfl, rfl, rfl⟩ rfl rfl rfl fun A w F R => ?_;refine en (rg ?_);refine sw_add F ⟨rfl, rfl, rfl⟩ rfl rfl (by have := lie_max hA; omega) rfl fun A F => ?_;refine mv F fun A F=>?_;refine sw_end ?_;show _ ∧ _;refine ⟨⟨k + 1, by omega, F.keep [14, 13, 12, 0, 2] rfl, by rw [sep_take hbk, if_pos (show k = 0 by omega)]; simpa only [PS.run_app, PS.run_cons, PS.run_nil, tkn, upV, downV, List.map_cons, List.map_nil] using R.tl⟩, ?_⟩;rw [(F.keep (N := 28) (L' := [(14, .int .i64 ((k + 1 : Nat) : Int))]) [14] rfl).2.2 14 (.int .i64 ((k + 1 : Nat) : Int)) rfl, hA4];simp only [intOf];omega
 replace hc1 := of_decide_eq_false hc1;have hkn : k = es.length := by omega
 refine wp_exit ?_;repeat (first | refine then_exit ?_ | refine exit_block ?_ | refine exit_pass rfl ?_)
 rw [hkn, ← hbl, List.take_length] at R;repeat first|refine tn ?_|refine bn ?_
 exact sw_endnone F Tryz.results51 ⟨rfl, by rw [sepF, PS.run_app, hp1]; exact R⟩
def CapG (b x : Nat) (E : List Ent) : Prop := ∃ j : Nat, E[j]? = some (.box x [ptr b] 42)
theorem CapG.cons (b x : Nat) (e : Ent) (E : List Ent) (h : CapG b x E) : CapG b x (e :: E) := by
 obtain ⟨j, hj⟩ := h;exact ⟨j + 1, by simpa using hj⟩
theorem args1_m (b : Nat) (W0 : World) (xc : Nat) (fs : List Fld) (h4 : fs.length = 4) (ev : List PEv) (HX : WrM b W0 72 [ptr b, .agg (fs.map Fld.val).toArray, .int .i64 1] ev) : WrG b W0 (CapG b xc) 94 [.agg (fs.map Fld.val).toArray, ptr xc] ev := by
 refine ⟨by kernel_rfl, fun w0 E p w hGE R ft => ?_⟩;refine sw_fn Tryz.func94 rfl 6 Tryz.ntmps94 rfl fun A F => ?_;refine sq (rg ?_);refine sw_boxR F R (fs.map Fld.val) ⟨rfl, rfl, rfl⟩ rfl rfl rfl fun x1 A w F R => ?_;refine en (rg ?_);obtain ⟨j, hj⟩ := hGE;refine sw_cellR F R (j + 1) ⟨rfl, rfl, rfl⟩ rfl (by simpa using hj) rfl (by kernel_rfl) rfl fun A F => ?_;refine sw_allR F R 0 ⟨rfl, rfl, rfl⟩ rfl rfl (by kernel_rfl) (by rw [List.length_map, h4]; kernel_rfl) rfl fun A F => ?_;refine sw_callW HX F R ft ⟨rfl, rfl, rfl⟩ rfl rfl fun A w F R => ?_;refine sw_end ?_;repeat first|refine tn ?_|refine bn ?_
 exact sw_endnone F Tryz.results94 ⟨rfl, R.tl⟩
theorem wargs_m (b : Nat) (W0 : World) (lo : Nat) (la : Option Addr) (lc : Nat) (es : List (List Fld)) (l : List XT) (he : pvRows es = l.map XT.pv) (hA : (Fld.l la lc es).lies lo W0) (H : ∀ x ∈ l, ∀ d, d ∈ es → pvAll d = x.pv → WrM b W0 72 [ptr b, .agg (d.map Fld.val).toArray, .int .i64 1] x.evs) : WrM b W0 85 [ptr b, .slice la es.length lc] (argsV (l.map XT.evs)) := by
 have H2 : ∀ (xc k : Nat) (d : List Fld) (bk : List PEv), es[k]? = some d → (l.map XT.evs)[k]? = some bk → WrG b W0 (CapG b xc) 94 ([] ++ [.agg (d.map Fld.val).toArray] ++ [ptr xc]) bk := fun xc k d bk hd hb => by
  obtain ⟨x, hx, hpv, hbx⟩ := row_tree he hd;rw [hb] at hbx;injection hbx with hbx
  subst hbx;exact args1_m b W0 xc d (four_of he d (List.mem_of_getElem? hd)) x.evs (H x hx d (List.mem_of_getElem? hd) hpv)
 have hll : (l.map XT.evs).length = es.length := by rw [List.length_map, ← pvRows_len, he, List.length_map]
 refine ⟨by kernel_rfl, fun w0 E p w R ft => ?_⟩
 have hE : p.run (argsV (l.map XT.evs)) = p.run ((upV ++ tkn [40]) ++ (sepF es.length (l.map XT.evs) ++ ((tkn [41] ++ downV) ++ []))) := by
  rw [args_sep, hll];simp only [List.append_assoc, List.append_nil]
 have ft : Fit p ((upV ++ tkn [40]) ++ (sepF es.length (l.map XT.evs) ++ ((tkn [41] ++ downV) ++ []))) := by
  have h : wtV ((upV ++ tkn [40]) ++ (sepF es.length (l.map XT.evs) ++ ((tkn [41] ++ downV) ++ []))) = wtV (argsV (l.map XT.evs)) := by
   rw [← wt_args_sep, hll];simp only [List.append_assoc, List.append_nil]
  unfold Fit at ft ⊢;rw [h];exact ft
 refine sw_fn Tryz.func85 rfl 12 Tryz.ntmps85 rfl fun A F => ?_;refine sq (rg ?_);refine sw_boxR F R [.pointer (some ⟨b, 0, none⟩)] ⟨rfl, rfl, rfl⟩ rfl rfl rfl fun x1 A w F R => ?_;refine en (sq (rg ?_));refine sw_cellR F R 0 ⟨rfl, rfl, rfl⟩ rfl rfl rfl (by kernel_rfl) rfl fun A F => ?_;refine sw_callW (wopen_m b W0 [40]) F R ft.l ⟨rfl, rfl, rfl⟩ rfl rfl fun A w F R => ?_;replace ft := ft.r;refine en (sq (rg ?_));refine sw_cellR F R 0 ⟨rfl, rfl, rfl⟩ rfl rfl rfl (by kernel_rfl) rfl fun A F => ?_;refine mv F fun A F=>?_;refine sw_mkfc F ⟨rfl, rfl, rfl⟩ rfl rfl rfl fun A F => ?_;refine sw_callWG (sepE_m b W0 94 [] [ptr x1] (CapG b x1) (CapG.cons b x1) lo la lc es (l.map XT.evs) hA (four_of he) (by rw [List.length_map, ← pvRows_len, he, List.length_map]) (fun k d bk hd hb => H2 x1 k d bk hd hb)) ⟨0, rfl⟩ F R ft.l ⟨rfl, rfl, rfl⟩ rfl rfl fun A w F R => ?_;replace ft := ft.r;refine en (rg ?_);refine sw_cellR F R 0 ⟨rfl, rfl, rfl⟩ rfl rfl rfl (by kernel_rfl) rfl fun A F => ?_;refine sw_callW (wshut_m b W0 [41]) F R ft.l ⟨rfl, rfl, rfl⟩ rfl rfl fun A w F R => ?_;replace ft := ft.r;refine sw_end ?_;repeat first|refine tn ?_|refine bn ?_
 exact sw_endnone F Tryz.results85 ⟨rfl, by rw [hE]; simpa only [PS.run_app, PS.run_cons, PS.run_nil, tkn, upV, downV, List.map_cons, List.map_nil] using R.tl⟩
theorem winner_m (b : Nat) (W0 : World) (so sc : Key) (fs : List Fld) (h4 : fs.length = 4) (ev : List PEv) (HX : WrM b W0 72 [ptr b, .agg (fs.map Fld.val).toArray, .int .i64 1] ev) : WrM b W0 73 [ptr b, .string (str so), .agg (fs.map Fld.val).toArray, .string (str sc)] (innV so ev sc) := by
 refine ⟨by kernel_rfl, fun w0 E p w R ft => ?_⟩
 have hE : innV so ev sc = (upV ++ tkn so) ++ (ev ++ ((tkn sc ++ downV) ++ [])) := by
  rw [innV];simp only [List.append_assoc, List.append_nil]
 rw [hE] at ft;refine sw_fn Tryz.func73 rfl 17 Tryz.ntmps73 rfl fun A F => ?_;refine sq (rg ?_);refine sw_boxR F R (fs.map Fld.val) ⟨rfl, rfl, rfl⟩ rfl rfl rfl fun x1 A w F R => ?_;refine en (sq (rg ?_));refine mv F fun A F=>?_;refine mv F fun A F=>?_;refine sw_callW (wopen_m b W0 so) F R ft.l ⟨rfl, rfl, rfl⟩ rfl rfl fun A w F R => ?_;replace ft := ft.r;refine en (sq (rg ?_));refine mv F fun A F=>?_;refine sw_allR F R 0 ⟨rfl, rfl, rfl⟩ rfl rfl (by kernel_rfl) (by rw [List.length_map, h4]; kernel_rfl) rfl fun A F => ?_;refine sw_callW (HX) F R ft.l ⟨rfl, rfl, rfl⟩ rfl rfl fun A w F R => ?_;replace ft := ft.r;refine en (rg ?_);refine mv F fun A F=>?_;refine mv F fun A F=>?_;refine sw_callW (wshut_m b W0 sc) F R ft.l ⟨rfl, rfl, rfl⟩ rfl rfl fun A w F R => ?_;replace ft := ft.r;refine sw_end ?_;repeat first|refine tn ?_|refine bn ?_
 exact sw_endnone F Tryz.results73 ⟨rfl, by rw [hE]; simpa only [PS.run_app, PS.run_cons, PS.run_nil, tkn, upV, downV, List.map_cons, List.map_nil] using R.tl⟩
end Go.Proofs.YtpofgnlkhkednaaGreatDoor
