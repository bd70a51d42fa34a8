import Derived.Test.YtpofgnlkhkednaaGreatDoorM32
namespace Go.Proofs.YtpofgnlkhkednaaGreatDoor
open Go.RowKit
set_option linter.unusedVariables false
set_option linter.unusedSimpArgs false
set_option maxRecDepth 20000
set_option maxHeartbeats 8000000
theorem row_get {α : Type} {pv : α → EV} {es : List (List Fld)} {l : List α} (he : pvRows es = l.map pv) {k : Nat} {d : List Fld} (hd : es[k]? = some d) : ∃ x, l[k]? = some x ∧ pvAll d = pv x := by
 have e : (pvRows es)[k]? = (l.map pv)[k]? := by rw [he]
 rw [pvRows_map, List.getElem?_map, List.getElem?_map, hd] at e
 cases hx : l[k]? with
 | none => rw [hx] at e; cases e
 | some x =>
  rw [hx] at e;injection e with e
  exact ⟨x, rfl, e⟩
theorem all_next {α : Type} {f : α → Bool} {l : List α} {k : Nat} {x : α} (h : (l.take k).all f = true) (hx : l[k]? = some x) (hf : f x = true) : (l.take (k + 1)).all f = true := by
 rw [List.take_add_one, hx, List.all_append, h]
 simpa using hf
theorem all_no {α : Type} {f : α → Bool} {l : List α} {k : Nat} {x : α} (hx : l[k]? = some x) (hf : f x = false) : l.all f = false := by
 rw [List.all_eq_false];exact ⟨x, List.mem_of_getElem? hx, by rw [hf]; decide⟩
theorem allP_m (w0 : World) (l : List (Key × Int)) (H : ∀ x ∈ l, ∀ (lo : Nat) (fs : List Fld), pvAll fs = paP x → lieAll lo w0 fs → Meth Tryz.prog (Bx w0) (fun _ => False) 24 [.agg (fs.map Fld.val).toArray] () (fun v _ _ => v = .bool (paF x))) (lo : Nat) (la : Option Addr) (lc : Nat) (es : List (List Fld)) (he : pvRows es = l.map paP) (hA : (Fld.l la lc es).lies lo w0) : Meth Tryz.prog (Bx w0) (fun _ => False) 23 [.slice la es.length lc, .func (.func 24) #[] #[]] () (fun v _ _ => v = .bool (l.all paF)) := by
 have hsA := sz_any (n := 2) he (fun x => by first | rfl | (cases x; rfl));have hll : l.length = es.length := by rw [← pvRows_len, he, List.length_map]
 refine ⟨by kernel_rfl, fun wO R _ => ?_⟩;have M := bx_begin R;refine sw_fn Tryz.func23 rfl 18 Tryz.ntmps23 rfl fun A F => ?_;refine sq (rg ?_);refine as1 F fun A F=>?_;refine en (sq (sq (rg ?_)));refine mv F fun A F=>?_;refine sw_len F ⟨rfl, rfl, rfl⟩ rfl Tryz.underlying22 rfl fun A F => ?_;refine mv F fun A F=>?_;refine en (wp_block ?_);refine wp_loop (fun A w => ∃ k : Nat, k ≤ es.length ∧ (l.take k).all paF = true ∧ Fm 18 [(9, .int .i64 (k : Int)), (8, .int .i64 (es.length : Int)), (7, .slice la es.length lc), (1, .func (.func 24) #[] #[])] A ∧ Mm (Bx w0) (fun _ => False) wO [] () w) (fun A _ => es.length - (intOf (A.eval (.tmp 9))).toNat) ?_ ?_
 ·exact ⟨0, Nat.zero_le _, rfl, F.keep [9, 8, 7, 1] rfl, M⟩
 repeat clear F
 repeat clear M
 rintro A w ⟨k, hk, hal, F, M⟩;have hA4 : A.eval (.tmp 9) = .int .i64 (k : Int) := F.2.2 9 _ rfl;refine sq (rg ?_);refine lsi F fun A F=>?_;refine en (sq ?_);refine cd F (fun hc1=>?_) fun hc1=>?_
 ·replace hc1 := of_decide_eq_true hc1;have hkk : k < es.length := by omega
  obtain ⟨bk, ok, dk, rfl, hdk, rk, lik, hmk⟩ := el_at hA hsA hkk;obtain ⟨x, hlx, hpk⟩ := row_get he hdk;obtain ⟨fx, hfx⟩ : ∃ f, f = paF x := ⟨_, rfl⟩;have hH := H x (List.mem_of_getElem? hlx) lo dk hpk lik;rw [← hfx] at hH;have hxd := inv_P hpk;subst hxd;refine wp_skip (sq ?_);refine wp_block ?_;refine sq (rg ?_);refine sw_at F 2 ⟨rfl, rfl, rfl⟩ rfl rfl hkk Tryz.underlying22 (by kernel_rfl) rfl fun A F => ?_;refine sw_rng F (cs := [.string (str x.1), .int .i64 x.2]) (rk w M.st) ⟨rfl, rfl, rfl⟩ rfl (by kernel_rfl) (by kernel_rfl) rfl fun A F => ?_;refine alo F M [.string ⟨#[]⟩, .int .i64 0] fun x2 A w F M=>?_;refine sta F M 0 fun w M=>?_;dsimp only [List.set] at M;refine en (sq (rg ?_));refine mv F fun A F=>?_;refine ala F M 0 fun A F=>?_;refine sw_callv (v0 := []) hH F M ⟨rfl, rfl, rfl⟩ rfl rfl rfl ?_;rintro _ fs2 _ A w rfl F M;refine sw_not F ⟨rfl, rfl, rfl⟩ rfl rfl fun A F => ?_;refine en (cd F (fun hc3=>?_) fun hc3=>?_)
  ·have hb : fx = false := by simpa using hc3
   refine sq (rg ?_);refine as1 F fun A F=>?_;refine en (wp_ret ?_);repeat first|refine tr ?_|refine br ?_
   exact sw_rettmp F Tryz.results23 rfl (ze M (by rw [all_no hlx (hfx.symm.trans hb)]))
  have hb : fx = true := by simpa using hc3
  refine wp_skip (rg ?_);refine sw_add F ⟨rfl, rfl, rfl⟩ rfl rfl (by have := lie_max hA; omega) rfl fun A F => ?_;refine mv F fun A F=>?_;refine sw_end ?_;show _ ∧ _;refine ⟨⟨k + 1, by omega, all_next hal hlx (hfx.symm.trans hb), F.keep [9, 8, 7, 1] rfl, M.tl.tl⟩, ?_⟩;rw [(F.keep (N := 18) (L' := [(9, .int .i64 ((k + 1 : Nat) : Int))]) [9] rfl).2.2 9 (.int .i64 ((k + 1 : Nat) : Int)) rfl, hA4];simp only [intOf];omega
 replace hc1 := of_decide_eq_false hc1;have hkn : k = l.length := by omega
 refine wp_exit ?_;repeat (first | refine then_exit ?_ | refine exit_block ?_ | refine exit_pass rfl ?_)
 show Code.wp _ _ _ _ _;refine sq (rg ?_);refine as1 F fun A F=>?_;refine en (wp_ret ?_);repeat first|refine tr ?_|refine br ?_
 exact sw_rettmp F Tryz.results23 rfl (ze M (by rw [hkn, List.take_length] at hal; rw [hal]))
theorem allT_m (w0 : World) (l : List (Key × Int × Int)) (H : ∀ x ∈ l, ∀ (lo : Nat) (fs : List Fld), pvAll fs = tbV x → lieAll lo w0 fs → Meth Tryz.prog (Bx w0) (fun _ => False) 26 [.agg (fs.map Fld.val).toArray] () (fun v _ _ => v = .bool (taF x))) (lo : Nat) (la : Option Addr) (lc : Nat) (es : List (List Fld)) (he : pvRows es = l.map tbV) (hA : (Fld.l la lc es).lies lo w0) : Meth Tryz.prog (Bx w0) (fun _ => False) 25 [.slice la es.length lc, .func (.func 26) #[] #[]] () (fun v _ _ => v = .bool (l.all taF)) := by
 have hsA := sz_any (n := 3) he (fun x => by first | rfl | (cases x; rfl));have hll : l.length = es.length := by rw [← pvRows_len, he, List.length_map]
 refine ⟨by kernel_rfl, fun wO R _ => ?_⟩;have M := bx_begin R;refine sw_fn Tryz.func25 rfl 18 Tryz.ntmps25 rfl fun A F => ?_;refine sq (rg ?_);refine as1 F fun A F=>?_;refine en (sq (sq (rg ?_)));refine mv F fun A F=>?_;refine sw_len F ⟨rfl, rfl, rfl⟩ rfl Tryz.underlying23 rfl fun A F => ?_;refine mv F fun A F=>?_;refine en (wp_block ?_);refine wp_loop (fun A w => ∃ k : Nat, k ≤ es.length ∧ (l.take k).all taF = true ∧ Fm 18 [(9, .int .i64 (k : Int)), (8, .int .i64 (es.length : Int)), (7, .slice la es.length lc), (1, .func (.func 26) #[] #[])] A ∧ Mm (Bx w0) (fun _ => False) wO [] () w) (fun A _ => es.length - (intOf (A.eval (.tmp 9))).toNat) ?_ ?_
 ·exact ⟨0, Nat.zero_le _, rfl, F.keep [9, 8, 7, 1] rfl, M⟩
 repeat clear F
 repeat clear M
 rintro A w ⟨k, hk, hal, F, M⟩;have hA4 : A.eval (.tmp 9) = .int .i64 (k : Int) := F.2.2 9 _ rfl;refine sq (rg ?_);refine lsi F fun A F=>?_;refine en (sq ?_);refine cd F (fun hc1=>?_) fun hc1=>?_
 ·replace hc1 := of_decide_eq_true hc1;have hkk : k < es.length := by omega
  obtain ⟨bk, ok, dk, rfl, hdk, rk, lik, hmk⟩ := el_at hA hsA hkk;obtain ⟨x, hlx, hpk⟩ := row_get he hdk;obtain ⟨fx, hfx⟩ : ∃ f, f = taF x := ⟨_, rfl⟩;have hH := H x (List.mem_of_getElem? hlx) lo dk hpk lik;rw [← hfx] at hH;have hxd := inv_T hpk;subst hxd;refine wp_skip (sq ?_);refine wp_block ?_;refine sq (rg ?_);refine sw_at F 3 ⟨rfl, rfl, rfl⟩ rfl rfl hkk Tryz.underlying23 (by kernel_rfl) rfl fun A F => ?_;refine sw_rng F (cs := [.string (str x.1), .int .i64 x.2.1, .int .i64 x.2.2]) (rk w M.st) ⟨rfl, rfl, rfl⟩ rfl (by kernel_rfl) (by kernel_rfl) rfl fun A F => ?_;refine alo F M [.string ⟨#[]⟩, .int .i64 0, .int .i64 0] fun x2 A w F M=>?_;refine sta F M 0 fun w M=>?_;dsimp only [List.set] at M;refine en (sq (rg ?_));refine mv F fun A F=>?_;refine ala F M 0 fun A F=>?_;refine sw_callv (v0 := []) hH F M ⟨rfl, rfl, rfl⟩ rfl rfl rfl ?_;rintro _ fs2 _ A w rfl F M;refine sw_not F ⟨rfl, rfl, rfl⟩ rfl rfl fun A F => ?_;refine en (cd F (fun hc3=>?_) fun hc3=>?_)
  ·have hb : fx = false := by simpa using hc3
   refine sq (rg ?_);refine as1 F fun A F=>?_;refine en (wp_ret ?_);repeat first|refine tr ?_|refine br ?_
   exact sw_rettmp F Tryz.results25 rfl (ze M (by rw [all_no hlx (hfx.symm.trans hb)]))
  have hb : fx = true := by simpa using hc3
  refine wp_skip (rg ?_);refine sw_add F ⟨rfl, rfl, rfl⟩ rfl rfl (by have := lie_max hA; omega) rfl fun A F => ?_;refine mv F fun A F=>?_;refine sw_end ?_;show _ ∧ _;refine ⟨⟨k + 1, by omega, all_next hal hlx (hfx.symm.trans hb), F.keep [9, 8, 7, 1] rfl, M.tl.tl⟩, ?_⟩;rw [(F.keep (N := 18) (L' := [(9, .int .i64 ((k + 1 : Nat) : Int))]) [9] rfl).2.2 9 (.int .i64 ((k + 1 : Nat) : Int)) rfl, hA4];simp only [intOf];omega
 replace hc1 := of_decide_eq_false hc1;have hkn : k = l.length := by omega
 refine wp_exit ?_;repeat (first | refine then_exit ?_ | refine exit_block ?_ | refine exit_pass rfl ?_)
 show Code.wp _ _ _ _ _;refine sq (rg ?_);refine as1 F fun A F=>?_;refine en (wp_ret ?_);repeat first|refine tr ?_|refine br ?_
 exact sw_rettmp F Tryz.results25 rfl (ze M (by rw [hkn, List.take_length] at hal; rw [hal]))
theorem allF_m (w0 : World) (l : List (FT)) (H : ∀ x ∈ l, ∀ (lo : Nat) (fs : List Fld), pvAll fs = FT.pv x → lieAll lo w0 fs → Meth Tryz.prog (Bx w0) (fun _ => False) 28 [.agg (fs.map Fld.val).toArray] () (fun v _ _ => v = .bool (FT.fm x))) (lo : Nat) (la : Option Addr) (lc : Nat) (es : List (List Fld)) (he : pvRows es = l.map FT.pv) (hA : (Fld.l la lc es).lies lo w0) : Meth Tryz.prog (Bx w0) (fun _ => False) 27 [.slice la es.length lc, .func (.func 28) #[] #[]] () (fun v _ _ => v = .bool (l.all FT.fm)) := by
 have hsA := sz_any (n := 5) he (fun x => by first | rfl | (cases x; rfl));have hll : l.length = es.length := by rw [← pvRows_len, he, List.length_map]
 refine ⟨by kernel_rfl, fun wO R _ => ?_⟩;have M := bx_begin R;refine sw_fn Tryz.func27 rfl 18 Tryz.ntmps27 rfl fun A F => ?_;refine sq (rg ?_);refine as1 F fun A F=>?_;refine en (sq (sq (rg ?_)));refine mv F fun A F=>?_;refine sw_len F ⟨rfl, rfl, rfl⟩ rfl Tryz.underlying24 rfl fun A F => ?_;refine mv F fun A F=>?_;refine en (wp_block ?_);refine wp_loop (fun A w => ∃ k : Nat, k ≤ es.length ∧ (l.take k).all FT.fm = true ∧ Fm 18 [(9, .int .i64 (k : Int)), (8, .int .i64 (es.length : Int)), (7, .slice la es.length lc), (1, .func (.func 28) #[] #[])] A ∧ Mm (Bx w0) (fun _ => False) wO [] () w) (fun A _ => es.length - (intOf (A.eval (.tmp 9))).toNat) ?_ ?_
 ·exact ⟨0, Nat.zero_le _, rfl, F.keep [9, 8, 7, 1] rfl, M⟩
 repeat clear F
 repeat clear M
 rintro A w ⟨k, hk, hal, F, M⟩;have hA4 : A.eval (.tmp 9) = .int .i64 (k : Int) := F.2.2 9 _ rfl;refine sq (rg ?_);refine lsi F fun A F=>?_;refine en (sq ?_);refine cd F (fun hc1=>?_) fun hc1=>?_
 ·replace hc1 := of_decide_eq_true hc1;have hkk : k < es.length := by omega
  obtain ⟨bk, ok, dk, rfl, hdk, rk, lik, hmk⟩ := el_at hA hsA hkk;obtain ⟨x, hlx, hpk⟩ := row_get he hdk;obtain ⟨fx, hfx⟩ : ∃ f, f = FT.fm x := ⟨_, rfl⟩;have hH := H x (List.mem_of_getElem? hlx) lo dk hpk lik;rw [← hfx] at hH;obtain ⟨nm, op, ps, ty, bs⟩ := x;obtain ⟨pa, pc, pe, ba, bc, bb, hxd, _, _⟩ := inv_F hpk;subst hxd;refine wp_skip (sq ?_);refine wp_block ?_;refine sq (rg ?_);refine sw_at F 5 ⟨rfl, rfl, rfl⟩ rfl rfl hkk Tryz.underlying24 (by kernel_rfl) rfl fun A F => ?_;refine sw_rng F (cs := [.string (str nm), .bool op, .slice pa pe.length pc, .int .i64 ty, .slice ba bb.length bc]) (rk w M.st) ⟨rfl, rfl, rfl⟩ rfl (by kernel_rfl) (by kernel_rfl) rfl fun A F => ?_;refine alo F M [.string ⟨#[]⟩, .bool false, .slice none 0 0, .int .i64 0, .slice none 0 0] fun x2 A w F M=>?_;refine sta F M 0 fun w M=>?_;dsimp only [List.set] at M;refine en (sq (rg ?_));refine mv F fun A F=>?_;refine ala F M 0 fun A F=>?_;refine sw_callv (v0 := []) hH F M ⟨rfl, rfl, rfl⟩ rfl rfl rfl ?_;rintro _ fs2 _ A w rfl F M;refine sw_not F ⟨rfl, rfl, rfl⟩ rfl rfl fun A F => ?_;refine en (cd F (fun hc3=>?_) fun hc3=>?_)
  ·have hb : fx = false := by simpa using hc3
   refine sq (rg ?_);refine as1 F fun A F=>?_;refine en (wp_ret ?_);repeat first|refine tr ?_|refine br ?_
   exact sw_rettmp F Tryz.results27 rfl (ze M (by rw [all_no hlx (hfx.symm.trans hb)]))
  have hb : fx = true := by simpa using hc3
  refine wp_skip (rg ?_);refine sw_add F ⟨rfl, rfl, rfl⟩ rfl rfl (by have := lie_max hA; omega) rfl fun A F => ?_;refine mv F fun A F=>?_;refine sw_end ?_;show _ ∧ _;refine ⟨⟨k + 1, by omega, all_next hal hlx (hfx.symm.trans hb), F.keep [9, 8, 7, 1] rfl, M.tl.tl⟩, ?_⟩;rw [(F.keep (N := 18) (L' := [(9, .int .i64 ((k + 1 : Nat) : Int))]) [9] rfl).2.2 9 (.int .i64 ((k + 1 : Nat) : Int)) rfl, hA4];simp only [intOf];omega
 replace hc1 := of_decide_eq_false hc1;have hkn : k = l.length := by omega
 refine wp_exit ?_;repeat (first | refine then_exit ?_ | refine exit_block ?_ | refine exit_pass rfl ?_)
 show Code.wp _ _ _ _ _;refine sq (rg ?_);refine as1 F fun A F=>?_;refine en (wp_ret ?_);repeat first|refine tr ?_|refine br ?_
 exact sw_rettmp F Tryz.results27 rfl (ze M (by rw [hkn, List.take_length] at hal; rw [hal]))
theorem allS_m (w0 : World) (l : List (ST)) (H : ∀ x ∈ l, ∀ (lo : Nat) (fs : List Fld), pvAll fs = ST.pv x → lieAll lo w0 fs → Meth Tryz.prog (Bx w0) (fun _ => False) 50 [.agg (fs.map Fld.val).toArray] () (fun v _ _ => v = .bool (ST.fm x))) (lo : Nat) (la : Option Addr) (lc : Nat) (es : List (List Fld)) (he : pvRows es = l.map ST.pv) (hA : (Fld.l la lc es).lies lo w0) : Meth Tryz.prog (Bx w0) (fun _ => False) 49 [.slice la es.length lc, .func (.func 50) #[] #[]] () (fun v _ _ => v = .bool (l.all ST.fm)) := by
 have hsA := sz_any (n := 8) he (fun x => by first | rfl | (cases x; rfl));have hll : l.length = es.length := by rw [← pvRows_len, he, List.length_map]
 refine ⟨by kernel_rfl, fun wO R _ => ?_⟩;have M := bx_begin R;refine sw_fn Tryz.func49 rfl 18 Tryz.ntmps49 rfl fun A F => ?_;refine sq (rg ?_);refine as1 F fun A F=>?_;refine en (sq (sq (rg ?_)));refine mv F fun A F=>?_;refine sw_len F ⟨rfl, rfl, rfl⟩ rfl Tryz.underlying51 rfl fun A F => ?_;refine mv F fun A F=>?_;refine en (wp_block ?_);refine wp_loop (fun A w => ∃ k : Nat, k ≤ es.length ∧ (l.take k).all ST.fm = true ∧ Fm 18 [(9, .int .i64 (k : Int)), (8, .int .i64 (es.length : Int)), (7, .slice la es.length lc), (1, .func (.func 50) #[] #[])] A ∧ Mm (Bx w0) (fun _ => False) wO [] () w) (fun A _ => es.length - (intOf (A.eval (.tmp 9))).toNat) ?_ ?_
 ·exact ⟨0, Nat.zero_le _, rfl, F.keep [9, 8, 7, 1] rfl, M⟩
 repeat clear F
 repeat clear M
 rintro A w ⟨k, hk, hal, F, M⟩;have hA4 : A.eval (.tmp 9) = .int .i64 (k : Int) := F.2.2 9 _ rfl;refine sq (rg ?_);refine lsi F fun A F=>?_;refine en (sq ?_);refine cd F (fun hc1=>?_) fun hc1=>?_
 ·replace hc1 := of_decide_eq_true hc1;have hkk : k < es.length := by omega
  obtain ⟨bk, ok, dk, rfl, hdk, rk, lik, hmk⟩ := el_at hA hsA hkk;obtain ⟨x, hlx, hpk⟩ := row_get he hdk;obtain ⟨fx, hfx⟩ : ∃ f, f = ST.fm x := ⟨_, rfl⟩;have hH := H x (List.mem_of_getElem? hlx) lo dk hpk lik;rw [← hfx] at hH;obtain ⟨kd, nm, al, ca, ty, es2, bs, ls⟩ := x;obtain ⟨ea, ec, ee, ba, bc, bb, ea2, ec2, el, hxd, _, _, _⟩ := inv_S hpk;subst hxd;refine wp_skip (sq ?_);refine wp_block ?_;refine sq (rg ?_);refine sw_at F 8 ⟨rfl, rfl, rfl⟩ rfl rfl hkk Tryz.underlying51 (by kernel_rfl) rfl fun A F => ?_;refine sw_rng F (cs := [.int .i64 kd, .string (str nm), .string (str al), .string (str ca), .int .i64 ty, .slice ea ee.length ec, .slice ba bb.length bc, .slice ea2 el.length ec2]) (rk w M.st) ⟨rfl, rfl, rfl⟩ rfl (by kernel_rfl) (by kernel_rfl) rfl fun A F => ?_;refine alo F M [.int .i64 0, .string ⟨#[]⟩, .string ⟨#[]⟩, .string ⟨#[]⟩, .int .i64 0, .slice none 0 0, .slice none 0 0, .slice none 0 0] fun x2 A w F M=>?_;refine sta F M 0 fun w M=>?_;dsimp only [List.set] at M;refine en (sq (rg ?_));refine mv F fun A F=>?_;refine ala F M 0 fun A F=>?_;refine sw_callv (v0 := []) hH F M ⟨rfl, rfl, rfl⟩ rfl rfl rfl ?_;rintro _ fs2 _ A w rfl F M;refine sw_not F ⟨rfl, rfl, rfl⟩ rfl rfl fun A F => ?_;refine en (cd F (fun hc3=>?_) fun hc3=>?_)
  ·have hb : fx = false := by simpa using hc3
   refine sq (rg ?_);refine as1 F fun A F=>?_;refine en (wp_ret ?_);repeat first|refine tr ?_|refine br ?_
   exact sw_rettmp F Tryz.results49 rfl (ze M (by rw [all_no hlx (hfx.symm.trans hb)]))
  have hb : fx = true := by simpa using hc3
  refine wp_skip (rg ?_);refine sw_add F ⟨rfl, rfl, rfl⟩ rfl rfl (by have := lie_max hA; omega) rfl fun A F => ?_;refine mv F fun A F=>?_;refine sw_end ?_;show _ ∧ _;refine ⟨⟨k + 1, by omega, all_next hal hlx (hfx.symm.trans hb), F.keep [9, 8, 7, 1] rfl, M.tl.tl⟩, ?_⟩;rw [(F.keep (N := 18) (L' := [(9, .int .i64 ((k + 1 : Nat) : Int))]) [9] rfl).2.2 9 (.int .i64 ((k + 1 : Nat) : Int)) rfl, hA4];simp only [intOf];omega
 replace hc1 := of_decide_eq_false hc1;have hkn : k = l.length := by omega
 refine wp_exit ?_;repeat (first | refine then_exit ?_ | refine exit_block ?_ | refine exit_pass rfl ?_)
 show Code.wp _ _ _ _ _;refine sq (rg ?_);refine as1 F fun A F=>?_;refine en (wp_ret ?_);repeat first|refine tr ?_|refine br ?_
 exact sw_rettmp F Tryz.results49 rfl (ze M (by rw [hkn, List.take_length] at hal; rw [hal]))
theorem allE_m (w0 : World) (l : List (XT)) (H : ∀ x ∈ l, ∀ (lo : Nat) (fs : List Fld), pvAll fs = XT.pv x → lieAll lo w0 fs → Meth Tryz.prog (Bx w0) (fun _ => False) 61 [.agg (fs.map Fld.val).toArray] () (fun v _ _ => v = .bool (XT.fm x))) (lo : Nat) (la : Option Addr) (lc : Nat) (es : List (List Fld)) (he : pvRows es = l.map XT.pv) (hA : (Fld.l la lc es).lies lo w0) : Meth Tryz.prog (Bx w0) (fun _ => False) 60 [.slice la es.length lc, .func (.func 61) #[] #[]] () (fun v _ _ => v = .bool (l.all XT.fm)) := by
 have hsA := sz_any (n := 4) he (fun x => by first | rfl | (cases x; rfl));have hll : l.length = es.length := by rw [← pvRows_len, he, List.length_map]
 refine ⟨by kernel_rfl, fun wO R _ => ?_⟩;have M := bx_begin R;refine sw_fn Tryz.func60 rfl 18 Tryz.ntmps60 rfl fun A F => ?_;refine sq (rg ?_);refine as1 F fun A F=>?_;refine en (sq (sq (rg ?_)));refine mv F fun A F=>?_;refine sw_len F ⟨rfl, rfl, rfl⟩ rfl Tryz.underlying75 rfl fun A F => ?_;refine mv F fun A F=>?_;refine en (wp_block ?_);refine wp_loop (fun A w => ∃ k : Nat, k ≤ es.length ∧ (l.take k).all XT.fm = true ∧ Fm 18 [(9, .int .i64 (k : Int)), (8, .int .i64 (es.length : Int)), (7, .slice la es.length lc), (1, .func (.func 61) #[] #[])] A ∧ Mm (Bx w0) (fun _ => False) wO [] () w) (fun A _ => es.length - (intOf (A.eval (.tmp 9))).toNat) ?_ ?_
 ·exact ⟨0, Nat.zero_le _, rfl, F.keep [9, 8, 7, 1] rfl, M⟩
 repeat clear F
 repeat clear M
 rintro A w ⟨k, hk, hal, F, M⟩;have hA4 : A.eval (.tmp 9) = .int .i64 (k : Int) := F.2.2 9 _ rfl;refine sq (rg ?_);refine lsi F fun A F=>?_;refine en (sq ?_);refine cd F (fun hc1=>?_) fun hc1=>?_
 ·replace hc1 := of_decide_eq_true hc1;have hkk : k < es.length := by omega
  obtain ⟨bk, ok, dk, rfl, hdk, rk, lik, hmk⟩ := el_at hA hsA hkk;obtain ⟨x, hlx, hpk⟩ := row_get he hdk;obtain ⟨fx, hfx⟩ : ∃ f, f = XT.fm x := ⟨_, rfl⟩;have hH := H x (List.mem_of_getElem? hlx) lo dk hpk lik;rw [← hfx] at hH;obtain ⟨op, n, s, ar⟩ := x;obtain ⟨ea, ec, ee, hxd, _⟩ := inv_E hpk;subst hxd;refine wp_skip (sq ?_);refine wp_block ?_;refine sq (rg ?_);refine sw_at F 4 ⟨rfl, rfl, rfl⟩ rfl rfl hkk Tryz.underlying75 (by kernel_rfl) rfl fun A F => ?_;refine sw_rng F (cs := [.int .i64 op, .int .i64 n, .string (str s), .slice ea ee.length ec]) (rk w M.st) ⟨rfl, rfl, rfl⟩ rfl (by kernel_rfl) (by kernel_rfl) rfl fun A F => ?_;refine alo F M [.int .i64 0, .int .i64 0, .string ⟨#[]⟩, .slice none 0 0] fun x2 A w F M=>?_;refine sta F M 0 fun w M=>?_;dsimp only [List.set] at M;refine en (sq (rg ?_));refine mv F fun A F=>?_;refine ala F M 0 fun A F=>?_;refine sw_callv (v0 := []) hH F M ⟨rfl, rfl, rfl⟩ rfl rfl rfl ?_;rintro _ fs2 _ A w rfl F M;refine sw_not F ⟨rfl, rfl, rfl⟩ rfl rfl fun A F => ?_;refine en (cd F (fun hc3=>?_) fun hc3=>?_)
  ·have hb : fx = false := by simpa using hc3
   refine sq (rg ?_);refine as1 F fun A F=>?_;refine en (wp_ret ?_);repeat first|refine tr ?_|refine br ?_
   exact sw_rettmp F Tryz.results60 rfl (ze M (by rw [all_no hlx (hfx.symm.trans hb)]))
  have hb : fx = true := by simpa using hc3
  refine wp_skip (rg ?_);refine sw_add F ⟨rfl, rfl, rfl⟩ rfl rfl (by have := lie_max hA; omega) rfl fun A F => ?_;refine mv F fun A F=>?_;refine sw_end ?_;show _ ∧ _;refine ⟨⟨k + 1, by omega, all_next hal hlx (hfx.symm.trans hb), F.keep [9, 8, 7, 1] rfl, M.tl.tl⟩, ?_⟩;rw [(F.keep (N := 18) (L' := [(9, .int .i64 ((k + 1 : Nat) : Int))]) [9] rfl).2.2 9 (.int .i64 ((k + 1 : Nat) : Int)) rfl, hA4];simp only [intOf];omega
 replace hc1 := of_decide_eq_false hc1;have hkn : k = l.length := by omega
 refine wp_exit ?_;repeat (first | refine then_exit ?_ | refine exit_block ?_ | refine exit_pass rfl ?_)
 show Code.wp _ _ _ _ _;refine sq (rg ?_);refine as1 F fun A F=>?_;refine en (wp_ret ?_);repeat first|refine tr ?_|refine br ?_
 exact sw_rettmp F Tryz.results60 rfl (ze M (by rw [hkn, List.take_length] at hal; rw [hal]))
end Go.Proofs.YtpofgnlkhkednaaGreatDoor
