import Derived.Test.YthhpkjmhcolgfaaGreatDoorM27
namespace Go.Proofs.YthhpkjmhcolgfaaGreatDoor
open Go.RowKit
set_option linter.unusedVariables false
set_option linter.unusedSimpArgs false
set_option maxRecDepth 20000
set_option maxHeartbeats 8000000
theorem rops_x (w0 : World) : Meth Tryz.prog (Bx w0) (fun _ => False) 187 [] () fun v fs _ => ∃ x, v = .slice (some ⟨x, 0, none⟩) 13 13 ∧ fs = [.l (some ⟨x, 0, none⟩) 13 opsF] := by
 refine ⟨by kernel_rfl, fun wO R _ => ?_⟩;have M := bx_begin R;refine sw_fn Tryz.func187 rfl 15 Tryz.ntmps187 rfl fun A F => ?_;refine sq (rg ?_);refine as1 F fun A F=>?_;refine en (sq (rg ?_));refine sw_build F _ [.string (str [111, 114]), .int .i64 6, .int .i64 1] ⟨rfl, rfl, rfl⟩ rfl (by kernel_rfl) rfl fun A F => ?_;refine sw_build F _ [.string (str [97, 110, 100]), .int .i64 7, .int .i64 2] ⟨rfl, rfl, rfl⟩ rfl (by kernel_rfl) rfl fun A F => ?_;refine sw_build F _ [.string (str [61, 61]), .int .i64 9, .int .i64 4] ⟨rfl, rfl, rfl⟩ rfl (by kernel_rfl) rfl fun A F => ?_;refine sw_build F _ [.string (str [33, 61]), .int .i64 10, .int .i64 4] ⟨rfl, rfl, rfl⟩ rfl (by kernel_rfl) rfl fun A F => ?_;refine sw_build F _ [.string (str [60]), .int .i64 11, .int .i64 4] ⟨rfl, rfl, rfl⟩ rfl (by kernel_rfl) rfl fun A F => ?_;refine sw_build F _ [.string (str [60, 61]), .int .i64 12, .int .i64 4] ⟨rfl, rfl, rfl⟩ rfl (by kernel_rfl) rfl fun A F => ?_;refine sw_build F _ [.string (str [62]), .int .i64 13, .int .i64 4] ⟨rfl, rfl, rfl⟩ rfl (by kernel_rfl) rfl fun A F => ?_;refine sw_build F _ [.string (str [62, 61]), .int .i64 14, .int .i64 4] ⟨rfl, rfl, rfl⟩ rfl (by kernel_rfl) rfl fun A F => ?_;refine sw_build F _ [.string (str [43]), .int .i64 15, .int .i64 5] ⟨rfl, rfl, rfl⟩ rfl (by kernel_rfl) rfl fun A F => ?_;refine sw_build F _ [.string (str [45]), .int .i64 16, .int .i64 5] ⟨rfl, rfl, rfl⟩ rfl (by kernel_rfl) rfl fun A F => ?_;refine sw_build F _ [.string (str [42]), .int .i64 17, .int .i64 6] ⟨rfl, rfl, rfl⟩ rfl (by kernel_rfl) rfl fun A F => ?_;refine sw_build F _ [.string (str [47]), .int .i64 18, .int .i64 6] ⟨rfl, rfl, rfl⟩ rfl (by kernel_rfl) rfl fun A F => ?_;refine sw_build F _ [.string (str [37]), .int .i64 19, .int .i64 6] ⟨rfl, rfl, rfl⟩ rfl (by kernel_rfl) rfl fun A F => ?_;refine sw_mkrow (ety := 186) (sz := 3) (z := .agg #[.string ⟨#[]⟩, .int .i64 0, .int .i64 0]) F M _ opsF ⟨rfl, rfl, rfl⟩ rfl (by kernel_rfl) (by kernel_rfl) rfl (by kernel_rfl) rfl ?_ ?_ rfl fun x1 A w F M => ?_
 ·intro g hg;obtain ⟨p, hp, rfl⟩ := List.mem_map.1 hg;have q := opn_ok p hp;exact ⟨rfl, lie_cons trivial (lie_cons ⟨by omega, by omega⟩ (lie_cons ⟨by omega, by omega⟩ (lie_nil _ _)))⟩
 ·intro i f b hf hm g hg;obtain ⟨p, _, rfl⟩ := List.mem_map.1 hg;intro y hy;rcases List.mem_cons.1 hy with rfl | hy
  ·trivial
  rcases List.mem_cons.1 hy with rfl | hy
  ·trivial
  rw [List.mem_singleton.1 hy];trivial
 refine as1 F fun A F=>?_;refine en (wp_ret ?_);repeat first|refine tr ?_|refine br ?_
 exact sw_rettmp F Tryz.results187 rfl ⟨_, [.l (some ⟨x1, 0, none⟩) 13 opsF], (), rfl, M.but, M.st, lie_cons (M.mem.rowlie 0 rfl) (lie_nil _ _), x1, rfl, rfl⟩
def sgL : List (Key × Int × Int) → Int → Key × Int × Int
 | [], _ => ([], 0, 0)
 | p :: r, op => bif p.2.1 == op then p else sgL r op
theorem sg_at {k : Nat} {p : Key × Int × Int} {op : Int} (h : opn[k]? = some p) : sgL (opn.drop k) op = bif p.2.1 == op then p else sgL (opn.drop (k + 1)) op := by
 obtain ⟨h1, h2⟩ := List.getElem?_eq_some_iff.1 h;rw [List.drop_eq_getElem_cons h1, h2];rfl
theorem sg_two {op : Int} (h : isTwo op = true) : sgL opn op = (opWord op, op, holdI op) := by
 have h := of_decide_eq_true h;rcases (show op = 6 ∨ op = 7 ∨ op = 9 ∨ op = 10 ∨ op = 11 ∨ op = 12 ∨ op = 13 ∨ op = 14 ∨ op = 15 ∨ op = 16 ∨ op = 17 ∨ op = 18 ∨ op = 19 by omega) with rfl | rfl | rfl | rfl | rfl | rfl | rfl | rfl | rfl | rfl | rfl | rfl | rfl <;> decide
theorem sg_no {op : Int} (h : isTwo op = false) : sgL opn op = ([], 0, 0) := by
 have h := of_decide_eq_false h;have ne : ∀ n : Int, 6 ≤ n → n ≤ 19 → n ≠ 8 → (n == op) = false := fun n h1 h2 h3 => beq_eq_false_iff_ne.2 fun e => h (by omega);simp only [opn, sgL, ne 6 (by omega) (by omega) (by omega), ne 7 (by omega) (by omega) (by omega), ne 9 (by omega) (by omega) (by omega), ne 10 (by omega) (by omega) (by omega), ne 11 (by omega) (by omega) (by omega), ne 12 (by omega) (by omega) (by omega), ne 13 (by omega) (by omega) (by omega), ne 14 (by omega) (by omega) (by omega), ne 15 (by omega) (by omega) (by omega), ne 16 (by omega) (by omega) (by omega), ne 17 (by omega) (by omega) (by omega), ne 18 (by omega) (by omega) (by omega), ne 19 (by omega) (by omega) (by omega), cond_false]
theorem sg_pos {op : Int} (h : 0 < (sgL opn op).2.1) : isTwo op = true := by
 cases ht : isTwo op with
 | true => rfl
 | false => rw [sg_no ht] at h; exact absurd h (by decide)
theorem sg_neg {op : Int} (h : ¬ 0 < (sgL opn op).2.1) : isTwo op = false := by
 cases ht : isTwo op with
 | false => rfl
 | true =>
  rw [sg_two ht] at h;have := of_decide_eq_true ht;exact absurd (show 0 < op by omega) h
theorem rsign_m (w0 : World) (op : Int) : Meth Tryz.prog (Bx w0) (fun _ => False) 178 [.int .i64 op] () (fun v _ _ => v = .agg #[.string (str (sgL opn op).1), .int .i64 (sgL opn op).2.1, .int .i64 (sgL opn op).2.2]) := by
 refine ⟨by kernel_rfl, fun wO R _ => ?_⟩;have M := bx_begin R;refine sw_fn Tryz.func178 rfl 24 Tryz.ntmps178 rfl fun A F => ?_;refine sq (rg ?_);refine alo F M [.string ⟨#[]⟩, .int .i64 0, .int .i64 0] fun r A w F M=>?_;refine en (sq (rg ?_));refine sw_call (rops_x w0) F M ⟨rfl, rfl, rfl⟩ rfl rfl ?_;rintro _ _ _ A w ⟨x, rfl, rfl⟩ F M;refine as1 F fun A F=>?_;refine en (sq (sq (rg ?_)));refine as1 F fun A F=>?_;refine en (wp_block ?_);refine wp_loop (fun A w => ∃ k : Nat, k ≤ 13 ∧ Fm 24 [(4, .int .i64 (k : Int)), (3, .slice (some ⟨x, 0, none⟩) 13 13), (2, ptr r), (0, .int .i64 op)] A ∧ Mm (Bx w0) (fun _ => False) wO [.val [.l (some ⟨x, 0, none⟩) 13 opsF], .box r [.string ⟨#[]⟩, .int .i64 0, .int .i64 0] 186] () w ∧ sgL opn op = sgL (opn.drop k) op) (fun A _ => 13 - (intOf (A.eval (.tmp 4))).toNat) ?_ ?_
 ·exact ⟨0, by omega, F.keep [4, 3, 2, 0] rfl, M, rfl⟩
 rintro A w ⟨k, hk, F, M, hpk⟩;have hA : A.eval (.tmp 4) = .int .i64 (k : Int) := F.2.2 4 _ rfl;refine sq (sq (rg ?_));refine mv F fun A F=>?_;refine mv F fun A F=>?_;refine sw_len F ⟨rfl, rfl, rfl⟩ rfl Tryz.underlying190 rfl fun A F => ?_;refine lsi F fun A F=>?_;refine en (cd F (fun hc1=>?_) fun hc1=>?_)
 ·have hk3 : k < 13 := by have := of_decide_eq_true hc1; omega
  obtain ⟨q, hget⟩ : ∃ q, opn[k]? = some q := ⟨_, List.getElem?_eq_getElem (by have : opn.length = 13 := rfl; omega)⟩;have hrg := lie_range 3 (M.mem.vallie 0 rfl) opsF_len (k := k) (d := opF q) (by rw [opsF, List.getElem?_map, hget]; rfl);refine wp_skip (sq ?_);refine wp_block ?_;refine sq (rg ?_);refine mv F fun A F=>?_;refine mv F fun A F=>?_;refine sw_at F 3 ⟨rfl, rfl, rfl⟩ rfl rfl hk3 Tryz.underlying190 (by kernel_rfl) rfl fun A F => ?_;refine fl F 1 fun A F=>?_;refine sw_ext F ((hrg 1 _ rfl)) ⟨rfl, rfl, rfl⟩ rfl (by kernel_rfl) rfl fun A F => ?_;refine mv F fun A F=>?_;refine eqi F fun A F=>?_;refine en (cd F (fun hc2=>?_) fun hc2=>?_)
  ·have hst := hc2;refine sq (rg ?_);refine mv F fun A F=>?_;refine mv F fun A F=>?_;refine sw_at F 3 ⟨rfl, rfl, rfl⟩ rfl rfl hk3 Tryz.underlying190 (by kernel_rfl) rfl fun A F => ?_;refine sw_rng F hrg ⟨rfl, rfl, rfl⟩ rfl (by kernel_rfl) (by kernel_rfl) rfl fun A F => ?_;refine sta F M 1 fun w M=>?_;refine en (wp_ret ?_);repeat first|refine tr ?_|refine br ?_
   exact sw_retbox F M 1 Tryz.results178 rfl rfl (by kernel_rfl) (by kernel_rfl) ⟨_, [], (), rfl, M.but, M.st, lie_nil _ _, by rw [hpk, sg_at hget, hst, cond_true]; rfl⟩
  have hst := hc2;refine wp_skip (rg ?_);refine mv F fun A F=>?_;refine sw_add F ⟨rfl, rfl, rfl⟩ rfl rfl (by omega) rfl fun A F => ?_;refine as1 F fun A F=>?_;refine sw_end ?_;show _ ∧ _;refine ⟨⟨k + 1, by omega, F.keep [4, 3, 2, 0] rfl, M, by rw [hpk, sg_at hget, hst, cond_false]⟩, ?_⟩;rw [(F.keep (N := 24) (L' := [(4, .int .i64 ((k + 1 : Nat) : Int))]) [4] rfl).2.2 4 (.int .i64 ((k + 1 : Nat) : Int)) rfl, hA];simp only [intOf];omega
 have hk3 : k = 13 := by have := of_decide_eq_false hc1; omega
 refine wp_exit ?_;repeat (first | refine then_exit ?_ | refine exit_block ?_ | refine exit_pass rfl ?_)
 show Code.wp _ _ _ _ _;refine sq (rg ?_);refine sw_build F _ [.string ⟨#[]⟩, .int .i64 0, .int .i64 0] ⟨rfl, rfl, rfl⟩ rfl (by kernel_rfl) rfl fun A F => ?_;refine sta F M 1 fun w M=>?_;refine en (wp_ret ?_);repeat first|refine tr ?_|refine br ?_
 exact sw_retbox F M 1 Tryz.results178 rfl rfl (by kernel_rfl) (by kernel_rfl) ⟨_, [], (), rfl, M.but, M.st, lie_nil _ _, by subst hk3; rw [hpk]; rfl⟩
theorem rhold_m (w0 : World) (op : Int) : Meth Tryz.prog (Bx w0) (fun _ => False) 153 [.int .i64 op] () (fun v _ _ => v = .int .i64 (holdI op)) := by
 refine ⟨by kernel_rfl, fun wO R _ => ?_⟩;have M := bx_begin R;refine sw_fn Tryz.func153 rfl 13 Tryz.ntmps153 rfl fun A F => ?_;refine sq (rg ?_);refine as1 F fun A F=>?_;refine en (sq (sq (rg ?_)));refine mv F fun A F=>?_;refine eqi F fun A F=>?_;refine en (cd F (fun hc1=>?_) fun hc1=>?_)
 ·have hhc1 : (op = 8) := by simpa using hc1
  rw [hc1] at F;refine sq (rg ?_);refine as1 F fun A F=>?_;refine en (wp_ret ?_);repeat first|refine tr ?_|refine br ?_
  exact sw_rettmp F Tryz.results153 rfl (ze M (by rw [hhc1]; rfl))
 have hhc1 : (op ≠ 8) := by simpa using hc1
 rw [hc1] at F;refine wp_skip (sq (rg ?_));refine mv F fun A F=>?_;refine sw_call0 (rsign_m w0 op) F M ⟨rfl, rfl, rfl⟩ rfl rfl ?_;rintro _ _ A w ⟨_, rfl⟩ F M;refine alo F M [.string ⟨#[]⟩, .int .i64 0, .int .i64 0] fun x2 A w F M=>?_;refine sta F M 0 fun w M=>?_;dsimp only [List.set] at M;refine en (sq (sq (rg ?_)));refine fl F 1 fun A F=>?_;refine ce F M 0 fun A F=>?_;refine gti F fun A F=>?_;refine en (cd F (fun hc3=>?_) fun hc3=>?_)
 ·have hhc3 := of_decide_eq_true hc3;rw [hc3] at F;refine sq (rg ?_);refine fl F 2 fun A F=>?_;refine ce F M 0 fun A F=>?_;refine as1 F fun A F=>?_;refine en (wp_ret ?_);repeat first|refine tr ?_|refine br ?_
  exact sw_rettmp F Tryz.results153 rfl (ze M (by first | (subst hhc1; rfl) | (rw [sg_two (sg_pos hhc3)]) | (unfold holdI; have := of_decide_eq_false (sg_neg hhc3); rw [if_neg (by omega), if_neg (by omega), if_neg (by omega), if_neg (by omega), if_neg (by omega), if_neg (by omega)])))
 have hhc3 := of_decide_eq_false hc3;rw [hc3] at F;refine wp_skip (sq (rg ?_));refine as1 F fun A F=>?_;refine en (wp_ret ?_);repeat first|refine tr ?_|refine br ?_
 exact sw_rettmp F Tryz.results153 rfl (ze M (by first | (subst hhc1; rfl) | (rw [sg_two (sg_pos hhc3)]) | (unfold holdI; have := of_decide_eq_false (sg_neg hhc3); rw [if_neg (by omega), if_neg (by omega), if_neg (by omega), if_neg (by omega), if_neg (by omega), if_neg (by omega)])))
theorem rtakes_m (w0 : World) (op n : Int) (s : Key) (la : Option Addr) (lc : Nat) (es : List (List Fld)) : Meth Tryz.prog (Bx w0) (fun _ => False) 179 [.agg #[.int .i64 op, .int .i64 n, .string (str s), .slice la es.length lc]] () (fun v _ _ => v = .int .i64 (takesI op es.length)) := by
 refine ⟨by kernel_rfl, fun wO R _ => ?_⟩;have M := bx_begin R;refine sw_fn Tryz.func179 rfl 23 Tryz.ntmps179 rfl fun A F => ?_;refine sq (rg ?_);refine sw_box F M [.int .i64 op, .int .i64 n, .string (str s), .slice la es.length lc] ⟨rfl, rfl, rfl⟩ rfl rfl rfl fun x1 A w F M => ?_;refine as1 F fun A F=>?_;refine en (sq (rg ?_));refine fl F 0 fun A F=>?_;refine ce F M 0 fun A F=>?_;refine sw_call0 (rsign_m w0 op) F M ⟨rfl, rfl, rfl⟩ rfl rfl ?_;rintro _ _ A w ⟨_, rfl⟩ F M;refine alo F M [.string ⟨#[]⟩, .int .i64 0, .int .i64 0] fun x2 A w F M=>?_;refine sta F M 0 fun w M=>?_;dsimp only [List.set] at M;refine en (sq (sq (rg ?_)));refine fl F 1 fun A F=>?_;refine ce F M 0 fun A F=>?_;refine gti F fun A F=>?_;refine en (cd F (fun hc3=>?_) fun hc3=>?_)
 ·have hhc3 := of_decide_eq_true hc3;rw [hc3] at F;refine sq (rg ?_);refine as1 F fun A F=>?_;refine en (wp_ret ?_);repeat first|refine tr ?_|refine br ?_
  exact sw_rettmp F Tryz.results179 rfl (ze M (by unfold takesI; first | rw [sg_pos hhc3]; rfl | (rw [sg_neg hhc3]; rw [if_neg Bool.false_ne_true]; first | (rw [if_pos (by omega)]; rfl) | (rw [if_neg (by omega), if_pos (by omega)]) | (rw [if_neg (by omega), if_neg (by omega)]; rfl))))
 have hhc3 := of_decide_eq_false hc3;rw [hc3] at F;refine wp_skip (sq (sq (rg ?_)));refine fl F 0 fun A F=>?_;refine ce F M 1 fun A F=>?_;refine en (wp_block ?_);refine sq (sq (rg ?_));refine eqi F fun A F=>?_;refine as1 F fun A F=>?_;refine en (cd F (fun hc4=>?_) fun hc4=>?_)
 ·have hhc4 : (op = 8) := by simpa using hc4
  rw [hc4] at F;refine wp_skip (sw_true F rfl ?_);refine sq (rg ?_);refine as1 F fun A F=>?_;refine en (wp_ret ?_);repeat first|refine tr ?_|refine br ?_
  exact sw_rettmp F Tryz.results179 rfl (ze M (by unfold takesI; first | rw [sg_pos hhc3]; rfl | (rw [sg_neg hhc3]; rw [if_neg Bool.false_ne_true]; first | (rw [if_pos (by omega)]; rfl) | (rw [if_neg (by omega), if_pos (by omega)]) | (rw [if_neg (by omega), if_neg (by omega)]; rfl))))
 have hhc4 : (op ≠ 8) := by simpa using hc4
 rw [hc4] at F;refine sq (rg ?_);refine eqi F fun A F=>?_;refine as1 F fun A F=>?_;refine en (cd F (fun hc5=>?_) fun hc5=>?_)
 ·have hhc5 : (op = 24) := by simpa using hc5
  rw [hc5] at F;refine wp_skip (sw_true F rfl ?_);refine sq (rg ?_);refine as1 F fun A F=>?_;refine en (wp_ret ?_);repeat first|refine tr ?_|refine br ?_
  exact sw_rettmp F Tryz.results179 rfl (ze M (by unfold takesI; first | rw [sg_pos hhc3]; rfl | (rw [sg_neg hhc3]; rw [if_neg Bool.false_ne_true]; first | (rw [if_pos (by omega)]; rfl) | (rw [if_neg (by omega), if_pos (by omega)]) | (rw [if_neg (by omega), if_neg (by omega)]; rfl))))
 have hhc5 : (op ≠ 24) := by simpa using hc5
 rw [hc5] at F;refine sq (rg ?_);refine eqi F fun A F=>?_;refine as1 F fun A F=>?_;refine en (cd F (fun hc6=>?_) fun hc6=>?_)
 ·have hhc6 : (op = 25) := by simpa using hc6
  rw [hc6] at F;refine wp_skip (sw_true F rfl ?_);refine sq (rg ?_);refine as1 F fun A F=>?_;refine en (wp_ret ?_);repeat first|refine tr ?_|refine br ?_
  exact sw_rettmp F Tryz.results179 rfl (ze M (by unfold takesI; first | rw [sg_pos hhc3]; rfl | (rw [sg_neg hhc3]; rw [if_neg Bool.false_ne_true]; first | (rw [if_pos (by omega)]; rfl) | (rw [if_neg (by omega), if_pos (by omega)]) | (rw [if_neg (by omega), if_neg (by omega)]; rfl))))
 have hhc6 : (op ≠ 25) := by simpa using hc6
 rw [hc6] at F;refine sq (rg ?_);refine eqi F fun A F=>?_;refine as1 F fun A F=>?_;refine en (cd F (fun hc7=>?_) fun hc7=>?_)
 ·have hhc7 : (op = 26) := by simpa using hc7
  rw [hc7] at F;refine wp_skip (sw_true F rfl ?_);refine sq (rg ?_);refine as1 F fun A F=>?_;refine en (wp_ret ?_);repeat first|refine tr ?_|refine br ?_
  exact sw_rettmp F Tryz.results179 rfl (ze M (by unfold takesI; first | rw [sg_pos hhc3]; rfl | (rw [sg_neg hhc3]; rw [if_neg Bool.false_ne_true]; first | (rw [if_pos (by omega)]; rfl) | (rw [if_neg (by omega), if_pos (by omega)]) | (rw [if_neg (by omega), if_neg (by omega)]; rfl))))
 have hhc7 : (op ≠ 26) := by simpa using hc7
 rw [hc7] at F;refine rg ?_;refine eqi F fun A F=>?_;refine as1 F fun A F=>?_;refine en (cd F (fun hc8=>?_) fun hc8=>?_)
 ·have hhc8 : (op = 4) := by simpa using hc8
  rw [hc8] at F;refine sq (rg ?_);refine as1 F fun A F=>?_;refine en (wp_ret ?_);repeat first|refine tr ?_|refine br ?_
  exact sw_rettmp F Tryz.results179 rfl (ze M (by unfold takesI; first | rw [sg_pos hhc3]; rfl | (rw [sg_neg hhc3]; rw [if_neg Bool.false_ne_true]; first | (rw [if_pos (by omega)]; rfl) | (rw [if_neg (by omega), if_pos (by omega)]) | (rw [if_neg (by omega), if_neg (by omega)]; rfl))))
 have hhc8 : (op ≠ 4) := by simpa using hc8
 rw [hc8] at F;refine sq (rg ?_);refine eqi F fun A F=>?_;refine as1 F fun A F=>?_;refine en (cd F (fun hc9=>?_) fun hc9=>?_)
 ·have hhc9 : (op = 5) := by simpa using hc9
  rw [hc9] at F;refine sq (rg ?_);refine fl F 3 fun A F=>?_;refine ce F M 1 fun A F=>?_;refine sw_len F ⟨rfl, rfl, rfl⟩ rfl Tryz.underlying72 rfl fun A F => ?_;refine as1 F fun A F=>?_;refine en (wp_ret ?_);repeat first|refine tr ?_|refine br ?_
  exact sw_rettmp F Tryz.results179 rfl (ze M (by unfold takesI; first | rw [sg_pos hhc3]; rfl | (rw [sg_neg hhc3]; rw [if_neg Bool.false_ne_true]; first | (rw [if_pos (by omega)]; rfl) | (rw [if_neg (by omega), if_pos (by omega)]) | (rw [if_neg (by omega), if_neg (by omega)]; rfl))))
 have hhc9 : (op ≠ 5) := by simpa using hc9
 rw [hc9] at F;refine wp_skip (sq (rg ?_));refine as1 F fun A F=>?_;refine en (wp_ret ?_);repeat first|refine tr ?_|refine br ?_
 exact sw_rettmp F Tryz.results179 rfl (ze M (by unfold takesI; first | rw [sg_pos hhc3]; rfl | (rw [sg_neg hhc3]; rw [if_neg Bool.false_ne_true]; first | (rw [if_pos (by omega)]; rfl) | (rw [if_neg (by omega), if_pos (by omega)]) | (rw [if_neg (by omega), if_neg (by omega)]; rfl))))
def BareOk (x : XT) : Prop := ∀ (b : Nat) (w0 : World) (lo : Nat) (fs : List Fld), pvAll fs = x.pv → lieAll lo w0 fs → PrM b w0 154 [ptr b, .agg (fs.map Fld.val).toArray] x.evs
theorem hold_ge (op : Int) : 1 ≤ holdI op ∧ holdI op ≤ 7 := by
 unfold holdI;repeat' split
 all_goals omega
theorem brk_one (op : Int) (bev : List PEv) : brkV 1 op bev = bev := if_neg (by have := (hold_ge op).1; omega)
theorem sep_snoc : ∀ (l : List (List PEv)) (x : List PEv), sepV (l ++ [x]) = sepV l ++ ((if l.length = 0 then [] else tkn [44]) ++ x)
 | [], x => rfl
 | [a], x => by
  show a ++ tkn [44] ++ x = a ++ (tkn [44] ++ x);rw [List.append_assoc]
 | a :: c :: r, x => by
  show a ++ tkn [44] ++ sepV ((c :: r) ++ [x]) = (a ++ tkn [44] ++ sepV (c :: r)) ++ _;rw [sep_snoc (c :: r) x];simp only [List.append_assoc];rfl
theorem sep_take {l : List (List PEv)} {k : Nat} {x : List PEv} (h : l[k]? = some x) : sepV (l.take (k + 1)) = sepV (l.take k) ++ ((if k = 0 then [] else tkn [44]) ++ x) := by
 have hk := (List.getElem?_eq_some_iff.1 h).1;rw [List.take_add_one, h];show sepV (l.take k ++ [x]) = _;rw [sep_snoc, List.length_take, Nat.min_eq_left (by omega)]
theorem sep_pre (l : List (List PEv)) : ∀ (n k : Nat), k + n = l.length → ∃ t, sepV l = sepV (l.take k) ++ t
 | 0, k, h => ⟨[], by rw [List.take_of_length_le (by omega), List.append_nil]⟩
 | n + 1, k, h => by
  obtain ⟨t, ht⟩ := sep_pre l n (k + 1) (by omega);have hx : l[k]? = some l[k] := List.getElem?_eq_getElem (by omega);rw [sep_take hx] at ht;exact ⟨_, by rw [ht, List.append_assoc]⟩
theorem sep_fit {p : PS} {l : List (List PEv)} {k : Nat} {b : List PEv} (h : Fit p (sepV l)) (hb : l[k]? = some b) : Fit (p.run (sepV (l.take k))) ((if k = 0 then [] else tkn [44]) ++ b) := by
 obtain ⟨t, ht⟩ := sep_pre l (l.length - (k + 1)) (k + 1) (by have := (List.getElem?_eq_some_iff.1 hb).1; omega);rw [ht, sep_take hb] at h;exact h.l.r
theorem row_tree {es : List (List Fld)} {l : List XT} (he : pvRows es = l.map XT.pv) {k : Nat} {d : List Fld} (hd : es[k]? = some d) : ∃ x, x ∈ l ∧ pvAll d = x.pv ∧ (l.map XT.evs)[k]? = some x.evs := by
 have e : (pvRows es)[k]? = (l.map XT.pv)[k]? := by rw [he]
 rw [pvRows_map, List.getElem?_map, List.getElem?_map, hd] at e
 cases hx : l[k]? with
 | none => rw [hx] at e; cases e
 | some x =>
  rw [hx] at e;injection e with e
  exact ⟨x, List.mem_of_getElem? hx, e, by rw [List.getElem?_map, hx]; rfl⟩
theorem four_of {es : List (List Fld)} {l : List XT} (he : pvRows es = l.map XT.pv) : ∀ d ∈ es, d.length = 4 := sz_of (n := 4) fun x hx => by
 rw [he] at hx;obtain ⟨y, _, rfl⟩ := List.mem_map.1 hx;cases y;rfl
theorem expr_of (x : XT) (H : BareOk x) (b : Nat) (w0 : World) (lo : Nat) (fs : List Fld) (r : Int) (h1 : 1 ≤ r) (h7 : r ≤ 7) (hp : pvAll fs = x.pv) (hl : lieAll lo w0 fs) : PrM b w0 124 [ptr b, .agg (fs.map Fld.val).toArray, .int .i64 r] (brkV r x.op x.evs) := by
 have HB := H b w0 lo fs hp hl;obtain ⟨op, n, s, ar⟩ := x;obtain ⟨la, lc, es, rfl, he⟩ := inv_E hp;obtain ⟨bev, hbe⟩ : ∃ l, l = (XT.mk op n s ar).evs := ⟨_, rfl⟩;rw [← hbe] at HB ⊢;show PrM b w0 _ _ (brkV r op bev);clear H hbe hp;intro p ft;refine ⟨by kernel_rfl, fun wO R _ => ?_⟩;have M := pr_begin R;refine sw_fn Tryz.func124 rfl 23 Tryz.ntmps124 rfl fun A F => ?_;refine sq (rg ?_);refine sw_box F M [.int .i64 op, .int .i64 n, .string (str s), .slice la es.length lc] ⟨rfl, rfl, rfl⟩ rfl rfl rfl fun x1 A w F M => ?_;refine en (sq (rg ?_));refine fl F 0 fun A F=>?_;refine ce F M 0 fun A F=>?_;refine sw_callR (by kernel_rfl) ((rhold_m _ op).2 _ (Below.refl _ _) (fun _ q => q.elim)) F ⟨rfl, rfl, rfl⟩ rfl rfl ?_;rintro e w1 ⟨v, fs, s', rfl, _, hb1, _, rfl⟩;refine ⟨_, rfl, fun A F => ?_⟩;replace M := M.after2 hb1;refine as1 F fun A F=>?_;refine en (sq (sq (rg ?_)));refine mv F fun A F=>?_;refine mv F fun A F=>?_;refine lsi F fun A F=>?_;refine en (cd F (fun hc2=>?_) fun hc2=>?_)
 ·replace hc2 := of_decide_eq_true hc2;have hE : brkV r op bev = (upV ++ optV [40]) ++ (bev ++ ((optV [41] ++ downV) ++ [])) := by rw [brkV, if_pos hc2]; simp only [List.append_assoc, List.append_nil]; rfl
  rw [hE] at ft;refine sq (rg ?_);refine mv F fun A F=>?_;refine sw_call0 (ropn_m [40] b w0 p ft.l) F M ⟨rfl, rfl, rfl⟩ rfl rfl ?_;rintro _ _ A w ⟨_, rfl⟩ F M;replace ft := ft.r;refine en (sq (rg ?_));refine mv F fun A F=>?_;refine ala F M 0 fun A F=>?_;refine sw_call0 (HB (p.run (upV ++ optV [40])) ft.l) F M ⟨rfl, rfl, rfl⟩ rfl rfl ?_;rintro _ _ A w ⟨_, rfl⟩ F M;replace ft := ft.r;refine en (sq (rg ?_));refine mv F fun A F=>?_;refine sw_call0 (rsht_m [41] b w0 ((p.run (upV ++ optV [40])).run (bev)) ft.l) F M ⟨rfl, rfl, rfl⟩ rfl rfl ?_;rintro _ _ A w ⟨_, rfl⟩ F M;replace ft := ft.r;refine en (wp_ret ?_);repeat first|refine tr ?_|refine br ?_
  exact sw_retnone F Tryz.results124 ⟨_, [], _, rfl, M.but, M.st, lie_nil _ _, by rw [hE]; simp only [PS.run_app, PS.run_nil]⟩
 replace hc2 := of_decide_eq_false hc2;have hE : brkV r op bev = bev ++ [] := by rw [brkV, if_neg hc2, List.append_nil]
 rw [hE] at ft;refine wp_skip (rg ?_);refine mv F fun A F=>?_;refine ala F M 0 fun A F=>?_;refine sw_call0 (HB p ft.l) F M ⟨rfl, rfl, rfl⟩ rfl rfl ?_;rintro _ _ A w ⟨_, rfl⟩ F M;replace ft := ft.r;refine sw_end ?_;repeat first|refine tn ?_|refine bn ?_
 exact sw_endnone F Tryz.results124 (ze M (by rw [hE]; simp only [PS.run_app, PS.run_nil]))
theorem args_of (l : List XT) (H : ∀ x ∈ l, BareOk x) (b : Nat) (w0 : World) (lo : Nat) (la : Option Addr) (lc : Nat) (es : List (List Fld)) (he : pvRows es = l.map XT.pv) (hA : (Fld.l la lc es).lies lo w0) : PrM b w0 125 [ptr b, .slice la es.length lc] (argsV (l.map XT.evs)) := by
 intro p ft;have hsA := four_of he;obtain ⟨bs, hbs⟩ : ∃ bs, bs = l.map XT.evs := ⟨_, rfl⟩;have hbl : bs.length = es.length := by rw [hbs, List.length_map, ← pvRows_len, he, List.length_map]
 obtain ⟨pf, hpf⟩ : ∃ pf, pf = if 8 < es.length then p.run farV else p := ⟨_, rfl⟩
 obtain ⟨p1, hp1⟩ : ∃ p1, p1 = pf.run (upV ++ optV [40]) := ⟨_, rfl⟩
 have hE : argsV (l.map XT.evs) = (if 8 < es.length then farV else []) ++ ((upV ++ optV [40]) ++ (sepV bs ++ (optV [41] ++ downV))) := by
  rw [← hbs, argsV, hbl];simp only [List.append_assoc];rfl
 rw [hE] at ft;have ft1 := ft.r
 have hr : p.run (if 8 < es.length then farV else []) = pf := by
  rw [hpf]
  split <;> rfl
 rw [hr] at ft1;have hf0 := ft1.l;have ft2 := ft1.r;rw [← hp1] at ft2;have hf1 := ft2.l;have hf2 := ft2.r
 have hfin : p.run (argsV (l.map XT.evs)) = (p1.run (sepV bs)).run (optV [41] ++ downV) := by
  rw [hE, PS.run_app, hr, PS.run_app, ← hp1, PS.run_app]
 refine ⟨by kernel_rfl, fun wO R _ => ?_⟩;have M := pr_begin R;refine sw_fn Tryz.func125 rfl 31 Tryz.ntmps125 rfl fun A F => ?_;refine sw_cut (fun A w => Fm 31 [(1, .slice la es.length lc), (0, ptr b)] A ∧ Mm (PrX b w0) (fun k => k = b) wO [] pf w) ?_ ?_
 ·refine sq (rg ?_);refine mv F fun A F=>?_;refine sw_len F ⟨rfl, rfl, rfl⟩ rfl Tryz.underlying72 rfl fun A F => ?_;refine gti F fun A F=>?_;refine en (cd F (fun hc1=>?_) fun hc1=>?_)
  ·replace hc1 := of_decide_eq_true hc1;refine rg ?_;refine mv F fun A F=>?_;refine ni F fun A F=>?_;refine fl F 4 fun A F=>?_;refine sw_setX1 F ⟨rfl, rfl, rfl⟩ rfl rfl M.st.1 (by kernel_rfl) rfl rfl rfl fun w B kb => ?_;replace M := M.unit (s' := p.run farV) B (M.st.set B kb);refine sw_end ?_;exact ⟨F.keep [1, 0] rfl, by rw [hpf, if_pos (by omega)]; exact M⟩
  replace hc1 := of_decide_eq_false hc1;refine wp_skip ?_;exact ⟨F.keep [1, 0] rfl, by rw [hpf, if_neg (by omega)]; exact M⟩
 rintro A w ⟨F, M⟩;show Code.wp _ _ _ _ _;refine sq (rg ?_);refine mv F fun A F=>?_;refine sw_call0 (ropn_m [40] b w0 pf hf0) F M ⟨rfl, rfl, rfl⟩ rfl rfl ?_;rintro _ _ A w ⟨_, rfl⟩ F M;refine en (sq (sq (rg ?_)));refine as1 F fun A F=>?_;refine en ?_;show Code.wp _ _ _ _ _;rw [← hp1] at M;refine wp_block ?_;refine wp_loop (fun A w => ∃ k : Nat, k ≤ es.length ∧ Fm 31 [(4, .int .i64 (k : Int)), (1, .slice la es.length lc), (0, ptr b)] A ∧ Mm (PrX b w0) (fun k => k = b) wO [] (p1.run (sepV (bs.take k))) w) (fun A _ => es.length - (intOf (A.eval (.tmp 4))).toNat) ?_ ?_
 ·exact ⟨0, Nat.zero_le _, F.keep [4, 1, 0] rfl, M⟩
 repeat clear F
 repeat clear M
 rintro A w ⟨k, hk, F, M⟩;have hA4 : A.eval (.tmp 4) = .int .i64 (k : Int) := F.2.2 4 _ rfl;refine sq (sq (rg ?_));refine mv F fun A F=>?_;refine mv F fun A F=>?_;refine sw_len F ⟨rfl, rfl, rfl⟩ rfl Tryz.underlying72 rfl fun A F => ?_;refine lsi F fun A F=>?_;refine en (cd F (fun hc2=>?_) fun hc2=>?_)
 ·replace hc2 := of_decide_eq_true hc2;have hkk : k < es.length := by omega
  obtain ⟨bk, ok, dk, rfl, hdk, rk, lik, hmk⟩ := el_at hA hsA hkk;have hdl := hsA dk (List.mem_of_getElem? hdk);obtain ⟨xk, hxk, hpv, hbk⟩ := row_tree he hdk;rw [← hbs] at hbk;have hfk := sep_fit hf1 (k := k) (b := xk.evs) hbk;refine wp_skip (sq ?_);refine wp_block ?_;refine sq (sq (rg ?_));refine mv F fun A F=>?_;refine gti F fun A F=>?_;refine en (cd F (fun hc3=>?_) fun hc3=>?_)
  ·replace hc3 := of_decide_eq_true hc3;rw [if_neg (show ¬ k = 0 by omega)] at hfk;refine rg ?_;refine mv F fun A F=>?_;refine sw_call0 (rput_m [44] b w0 _ hfk.l) F M ⟨rfl, rfl, rfl⟩ rfl rfl ?_;rintro _ _ A w ⟨_, rfl⟩ F M;replace hfk := hfk.r;refine en (rg ?_);refine mv F fun A F=>?_;refine mv F fun A F=>?_;refine mv F fun A F=>?_;refine sw_at F 4 ⟨rfl, rfl, rfl⟩ rfl rfl hkk Tryz.underlying72 (by kernel_rfl) rfl fun A F => ?_;refine sw_rng F (cs := dk.map Fld.val) (rk w M.st.2.1) ⟨rfl, rfl, rfl⟩ rfl (by kernel_rfl) (by rw [List.length_map, hdl]; kernel_rfl) rfl fun A F => ?_;refine sw_call0 ((expr_of xk (H xk hxk)) b w0 lo dk 1 (by omega) (by omega) hpv lik _ (by rw [brk_one]; exact hfk)) F M ⟨rfl, rfl, rfl⟩ rfl rfl ?_;rintro _ _ A w ⟨_, rfl⟩ F M;rw [brk_one] at M;refine en (rg ?_);refine mv F fun A F=>?_;refine sw_add F ⟨rfl, rfl, rfl⟩ rfl rfl (by have := lie_max hA; omega) rfl fun A F => ?_;refine as1 F fun A F=>?_;refine sw_end ?_;show _ ∧ _;refine ⟨⟨k + 1, by omega, F.keep [4, 1, 0] rfl, by rw [sep_take hbk, if_neg (show ¬ k = 0 by omega)]; simpa only [PS.run_app] using M⟩, ?_⟩;rw [(F.keep (N := 31) (L' := [(4, .int .i64 ((k + 1 : Nat) : Int))]) [4] rfl).2.2 4 (.int .i64 ((k + 1 : Nat) : Int)) rfl, hA4];simp only [intOf];omega
  replace hc3 := of_decide_eq_false hc3;rw [if_pos (show k = 0 by omega)] at hfk;rw [List.nil_append] at hfk;refine wp_skip (rg ?_);refine mv F fun A F=>?_;refine mv F fun A F=>?_;refine mv F fun A F=>?_;refine sw_at F 4 ⟨rfl, rfl, rfl⟩ rfl rfl hkk Tryz.underlying72 (by kernel_rfl) rfl fun A F => ?_;refine sw_rng F (cs := dk.map Fld.val) (rk w M.st.2.1) ⟨rfl, rfl, rfl⟩ rfl (by kernel_rfl) (by rw [List.length_map, hdl]; kernel_rfl) rfl fun A F => ?_;refine sw_call0 ((expr_of xk (H xk hxk)) b w0 lo dk 1 (by omega) (by omega) hpv lik _ (by rw [brk_one]; exact hfk)) F M ⟨rfl, rfl, rfl⟩ rfl rfl ?_;rintro _ _ A w ⟨_, rfl⟩ F M;rw [brk_one] at M;refine en (rg ?_);refine mv F fun A F=>?_;refine sw_add F ⟨rfl, rfl, rfl⟩ rfl rfl (by have := lie_max hA; omega) rfl fun A F => ?_;refine as1 F fun A F=>?_;refine sw_end ?_;show _ ∧ _;refine ⟨⟨k + 1, by omega, F.keep [4, 1, 0] rfl, by rw [sep_take hbk, if_pos (show k = 0 by omega)]; simpa only [PS.run_app, PS.run_nil] using M⟩, ?_⟩;rw [(F.keep (N := 31) (L' := [(4, .int .i64 ((k + 1 : Nat) : Int))]) [4] rfl).2.2 4 (.int .i64 ((k + 1 : Nat) : Int)) rfl, hA4];simp only [intOf];omega
 replace hc2 := of_decide_eq_false hc2;have hkn : k = es.length := by omega
 refine wp_exit ?_;repeat (first | refine then_exit ?_ | refine exit_block ?_ | refine exit_pass rfl ?_)
 rw [hkn, ← hbl, List.take_length] at M;show Code.wp _ _ _ _ _;refine rg ?_;refine mv F fun A F=>?_;refine sw_call0 (rsht_m [41] b w0 _ hf2) F M ⟨rfl, rfl, rfl⟩ rfl rfl ?_;rintro _ _ A w ⟨_, rfl⟩ F M;refine sw_end ?_;repeat first|refine tn ?_|refine bn ?_
 exact sw_endnone F Tryz.results125 (ze M hfin.symm)
end Go.Proofs.YthhpkjmhcolgfaaGreatDoor
