import Derived.Test.YtpofgnlkhkednaaGreatDoorM37
import Derived.Shelf.Small.Wraps
import Derived.Shelf.Strconv.Itoa3
import Derived.Lib.AppendIntMem
namespace Go.Proofs.YtpofgnlkhkednaaGreatDoor
open Go.RowKit
set_option linter.unusedVariables false
set_option linter.unusedSimpArgs false
set_option maxRecDepth 20000
set_option maxHeartbeats 8000000
def ArgW (b : Nat) (W0 : World) (la : Option Addr) (n k : Nat) (r : Int) (ev : List PEv) : Prop := ∃ (b0 o0 : Nat) (d : List Fld), la = some ⟨b0, o0, none⟩ ∧ k < n ∧ d.length = 4 ∧ (∀ w, Bx W0 () w → w.rangeAt b0 (o0 + k * 4) (d.map Fld.val)) ∧ WrM b W0 72 [ptr b, .agg (d.map Fld.val).toArray, .int .i64 r] ev
theorem exprw_of (b : Nat) (W0 : World) (op n : Int) (s : Key) (la : Option Addr) (lc : Nat) (es : List (List Fld)) (r : Int) (ev : List PEv)
  (HI : holdI op < r → WrM b W0 73 [ptr b, .string (str [40]), .agg #[.int .i64 op, .int .i64 n, .string (str s), .slice la es.length lc], .string (str [41])] (innV [40] ev [41]))
  (HA : holdI op = 7 → WrM b W0 83 [ptr b, .agg #[.int .i64 op, .int .i64 n, .string (str s), .slice la es.length lc]] ev)
  (HP : holdI op ≠ 7 → holdI op ≠ 3 → WrM b W0 84 [ptr b, .agg #[.int .i64 op, .int .i64 n, .string (str s), .slice la es.length lc], .int .i64 (holdI op)] ev)
  (HN : holdI op = 3 → ∃ ev0, ev = upV ++ tkn [110, 111, 116] ++ ev0 ++ downV ∧ ArgW b W0 la es.length 0 3 ev0) : WrM b W0 72 [ptr b, .agg #[.int .i64 op, .int .i64 n, .string (str s), .slice la es.length lc], .int .i64 r] (brkV r op ev) := by
 refine ⟨by kernel_rfl, fun w0 E p w R ft => ?_⟩;refine sw_fn Tryz.func72 rfl 48 Tryz.ntmps72 rfl fun A F => ?_;refine sq (rg ?_);refine sw_boxR F R [.int .i64 op, .int .i64 n, .string (str s), .slice la es.length lc] ⟨rfl, rfl, rfl⟩ rfl rfl rfl fun x1 A w F R => ?_;refine en (sq (rg ?_));refine fl F 0 fun A F=>?_;refine sw_cellR F R 0 ⟨rfl, rfl, rfl⟩ rfl rfl rfl (by kernel_rfl) rfl fun A F => ?_;refine sw_callR (by kernel_rfl) ((rankof_m _ op).2 _ (Below.refl _ _) (fun _ q => q.elim)) F ⟨rfl, rfl, rfl⟩ rfl rfl ?_;rintro e1 w1 ⟨v1, fs1, s1, rfl, _, hb1, _, rfl⟩;refine ⟨_, rfl, fun A F => ?_⟩;replace R := R.aft hb1;refine as1 F fun A F=>?_;refine en (wp_block ?_);refine sq (rg ?_);refine mv F fun A F=>?_;refine mv F fun A F=>?_;refine lsi F fun A F=>?_;refine as1 F fun A F=>?_;refine en (cd F (fun hc2=>?_) fun hc2=>?_)
 ·replace hc2 := of_decide_eq_true hc2;have hE : brkV r op ev = innV [40] ev [41] ++ [] := by rw [brkV, if_pos hc2, innV]; simp only [List.append_assoc, List.append_nil]
  rw [hE] at ft;refine rg ?_;refine mv F fun A F=>?_;refine sw_allR F R 0 ⟨rfl, rfl, rfl⟩ rfl rfl (by kernel_rfl) (by kernel_rfl) rfl fun A F => ?_;refine sw_callW (HI hc2) F R ft.l ⟨rfl, rfl, rfl⟩ rfl rfl fun A w F R => ?_;replace ft := ft.r;refine sw_end ?_;repeat first|refine tn ?_|refine bn ?_
  exact sw_endnone F Tryz.results72 ⟨rfl, by rw [hE]; simpa only [PS.run_app, PS.run_cons, PS.run_nil, tkn, upV, downV, List.map_cons, List.map_nil] using R.tl⟩
 replace hc2 := of_decide_eq_false hc2;have hB : brkV r op ev = ev ++ [] := by rw [brkV, if_neg hc2, List.append_nil]
 refine sq (rg ?_);refine mv F fun A F=>?_;refine eqi F fun A F=>?_;refine as1 F fun A F=>?_;refine en (cd F (fun hc3=>?_) fun hc3=>?_)
 ·replace hc3 : holdI op = 7 := by simpa using hc3
  have hE := hB;rw [hE] at ft;refine rg ?_;refine mv F fun A F=>?_;refine sw_allR F R 0 ⟨rfl, rfl, rfl⟩ rfl rfl (by kernel_rfl) (by kernel_rfl) rfl fun A F => ?_;refine sw_callW (HA hc3) F R ft.l ⟨rfl, rfl, rfl⟩ rfl rfl fun A w F R => ?_;replace ft := ft.r;refine sw_end ?_;repeat first|refine tn ?_|refine bn ?_
  exact sw_endnone F Tryz.results72 ⟨rfl, by rw [hE]; simpa only [PS.run_app, PS.run_cons, PS.run_nil, tkn, upV, downV, List.map_cons, List.map_nil] using R.tl⟩
 replace hc3 : holdI op ≠ 7 := by simpa using hc3
 refine sq (rg ?_);refine mv F fun A F=>?_;refine eqi F fun A F=>?_;refine as1 F fun A F=>?_;refine en (cd F (fun hc4=>?_) fun hc4=>?_)
 ·replace hc4 : holdI op = 3 := by simpa using hc4
  obtain ⟨ev0, hev, b0, o0, d0, rfl, hl0, z0, r0, H3⟩ := HN hc4;have hE : brkV r op ev = upV ++ ([[110, 111, 116]].map .tok ++ (ev0 ++ (downV ++ []))) := by rw [hB, hev]; simp only [List.append_assoc, List.append_nil]; rfl
  rw [hE] at ft;refine sq (rg ?_);refine mv F fun A F=>?_;refine sw_callW (deeper_m b W0) F R ft.l ⟨rfl, rfl, rfl⟩ rfl rfl fun A w F R => ?_;replace ft := ft.r;refine en (sq (rg ?_));refine mv F fun A F=>?_;refine sw_say F R [[110, 111, 116]] ft.l ⟨rfl, rfl, rfl⟩ ⟨rfl, rfl, rfl⟩ rfl (fun _ => rfl) rfl rfl (by kernel_rfl) rfl fun _ A w F R => ?_;replace ft := ft.r;refine en (sq (rg ?_));refine mv F fun A F=>?_;refine fl F 3 fun A F=>?_;refine sw_cellR F R 0 ⟨rfl, rfl, rfl⟩ rfl rfl rfl (by kernel_rfl) rfl fun A F => ?_;refine sw_at (k := 0) F 4 ⟨rfl, rfl, rfl⟩ rfl rfl (by omega) Tryz.underlying75 (by kernel_rfl) rfl fun A F => ?_;refine sw_rng F (cs := d0.map Fld.val) (r0 w R.bx) ⟨rfl, rfl, rfl⟩ rfl (by kernel_rfl) (by rw [List.length_map, z0]; kernel_rfl) rfl fun A F => ?_;refine sw_callW (H3) F R ft.l ⟨rfl, rfl, rfl⟩ rfl rfl fun A w F R => ?_;replace ft := ft.r;refine en (rg ?_);refine mv F fun A F=>?_;refine ni F fun A F=>?_;refine fl F 1 fun A F=>?_;have hb0 : Rm (((p.run (upV)).run ([[110, 111, 116]].map .tok)).run (ev0)) 0 := Rm.less ft (Nat.zero_le _);obtain ⟨_, hb1, hb2, _⟩ := hb0;obtain ⟨wa, wc, wt, M, ht⟩ := R;unfold WrI wrC at M;refine ce F M 0 fun A F=>?_;refine sw_sub F ⟨rfl, rfl, rfl⟩ rfl rfl (by omega) rfl fun A F => ?_;refine ni F fun A F=>?_;refine fl F 1 fun A F=>?_;refine st1 F M 0 fun w M=>?_;dsimp only [List.set] at M;have R : WrS b W0 w0 _ ((((p.run (upV)).run ([[110, 111, 116]].map .tok)).run (ev0)).run downV) w := ⟨wa, wc, wt, M, ht⟩;replace ft := ft.r;clear M ht hb1 hb2;refine sw_end ?_;repeat first|refine tn ?_|refine bn ?_
  exact sw_endnone F Tryz.results72 ⟨rfl, by rw [hE]; simpa only [PS.run_app, PS.run_cons, PS.run_nil, tkn, upV, downV, List.map_cons, List.map_nil] using R.tl⟩
 replace hc4 : holdI op ≠ 3 := by simpa using hc4
 have hE := hB;rw [hE] at ft;refine rg ?_;refine mv F fun A F=>?_;refine sw_allR F R 0 ⟨rfl, rfl, rfl⟩ rfl rfl (by kernel_rfl) (by kernel_rfl) rfl fun A F => ?_;refine mv F fun A F=>?_;refine sw_callW (HP hc3 hc4) F R ft.l ⟨rfl, rfl, rfl⟩ rfl rfl fun A w F R => ?_;replace ft := ft.r;refine sw_end ?_;repeat first|refine tn ?_|refine bn ?_
 exact sw_endnone F Tryz.results72 ⟨rfl, by rw [hE]; simpa only [PS.run_app, PS.run_cons, PS.run_nil, tkn, upV, downV, List.map_cons, List.map_nil] using R.tl⟩
theorem pairw_of {W0 : World} (HT : Tabs W0) (b : Nat) (op n : Int) (s : Key) (la : Option Addr) (lc : Nat) (es : List (List Fld)) (e0 e1 : List PEv) (ho : 1 ≤ op ∧ op ≤ 26)
  (G0 : ArgW b W0 la es.length 0 (if holdI op = 4 then 5 else holdI op) e0) (G1 : ArgW b W0 la es.length 1 (holdI op + 1) e1) : WrM b W0 84 [ptr b, .agg #[.int .i64 op, .int .i64 n, .string (str s), .slice la es.length lc], .int .i64 (holdI op)] (e0 ++ tkn (opWord op) ++ e1) := by
 have hr := hold_rng op;obtain ⟨b0, o0, d0, rfl, hl0, z0, r0, H0⟩ := G0;obtain ⟨b1, o1, d1, hq, hl1, z1, r1, H1⟩ := G1;injection hq with hq
 injection hq with hq1 hq2
 subst hq1 hq2;refine ⟨by kernel_rfl, fun w0 E p w R ft => ?_⟩;have hE : e0 ++ tkn (opWord op) ++ e1 = e0 ++ ([opWord op].map .tok ++ (e1 ++ [])) := by simp only [List.append_assoc, List.append_nil]; rfl
 rw [hE] at ft;refine sw_fn Tryz.func84 rfl 34 Tryz.ntmps84 rfl fun A F => ?_;refine sq (rg ?_);refine sw_boxR F R [.int .i64 op, .int .i64 n, .string (str s), .slice (some ⟨b0, o0, none⟩) es.length lc] ⟨rfl, rfl, rfl⟩ rfl rfl rfl fun x1 A w F R => ?_;refine en (sq (rg ?_));refine mv F fun A F=>?_;refine as1 F fun A F=>?_;refine en (sq (sq (rg ?_)));refine mv F fun A F=>?_;refine eqi F fun A F=>?_;refine en (cd F (fun hc2=>?_) fun hc2=>?_)
 ·replace hc2 : holdI op = 4 := by simpa using hc2
  have hL : (if holdI op = 4 then 5 else holdI op) = holdI op + 1 := by rw [if_pos hc2, hc2]; rfl
  rw [hL] at H0;refine rg ?_;refine mv F fun A F=>?_;refine sw_add F ⟨rfl, rfl, rfl⟩ rfl rfl (by omega) rfl fun A F => ?_;refine as1 F fun A F=>?_;refine en (sq (rg ?_));refine mv F fun A F=>?_;refine fl F 3 fun A F=>?_;refine sw_cellR F R 0 ⟨rfl, rfl, rfl⟩ rfl rfl rfl (by kernel_rfl) rfl fun A F => ?_;refine sw_at (k := 0) F 4 ⟨rfl, rfl, rfl⟩ rfl rfl (by omega) Tryz.underlying75 (by kernel_rfl) rfl fun A F => ?_;refine sw_rng F (cs := d0.map Fld.val) (r0 w R.bx) ⟨rfl, rfl, rfl⟩ rfl (by kernel_rfl) (by rw [List.length_map, z0]; kernel_rfl) rfl fun A F => ?_;refine mv F fun A F=>?_;refine sw_callW (H0) F R ft.l ⟨rfl, rfl, rfl⟩ rfl rfl fun A w F R => ?_;replace ft := ft.r;refine en (sq (rg ?_));refine mv F fun A F=>?_;refine fl F 0 fun A F=>?_;refine sw_cellR F R 0 ⟨rfl, rfl, rfl⟩ rfl rfl rfl (by kernel_rfl) rfl fun A F => ?_;refine sw_garr F 1 (k := (op).toNat) ⟨rfl, rfl, rfl⟩ (by rw [show (((op).toNat : Nat) : Int) = op by omega]; rfl) (show (op).toNat < 27 by omega) Tryz.underlying124 (by kernel_rfl) rfl fun A F => ?_;refine sw_ext F (HT.expr.at (by have := HT.size; omega) R.bx (k := op) (by omega) (by omega)) ⟨rfl, rfl, rfl⟩ rfl (by kernel_rfl) rfl fun A F => ?_;refine sw_say F R [(opWord op)] ft.l ⟨rfl, rfl, rfl⟩ ⟨rfl, rfl, rfl⟩ rfl (fun _ => rfl) rfl rfl (by kernel_rfl) rfl fun _ A w F R => ?_;replace ft := ft.r;refine en (rg ?_);refine mv F fun A F=>?_;refine fl F 3 fun A F=>?_;refine sw_cellR F R 0 ⟨rfl, rfl, rfl⟩ rfl rfl rfl (by kernel_rfl) rfl fun A F => ?_;refine sw_at (k := 1) F 4 ⟨rfl, rfl, rfl⟩ rfl rfl (by omega) Tryz.underlying75 (by kernel_rfl) rfl fun A F => ?_;refine sw_rng F (cs := d1.map Fld.val) (r1 w R.bx) ⟨rfl, rfl, rfl⟩ rfl (by kernel_rfl) (by rw [List.length_map, z1]; kernel_rfl) rfl fun A F => ?_;refine mv F fun A F=>?_;refine sw_add F ⟨rfl, rfl, rfl⟩ rfl rfl (by omega) rfl fun A F => ?_;refine sw_callW (H1) F R ft.l ⟨rfl, rfl, rfl⟩ rfl rfl fun A w F R => ?_;replace ft := ft.r;refine sw_end ?_;repeat first|refine tn ?_|refine bn ?_
  exact sw_endnone F Tryz.results84 ⟨rfl, by rw [hE]; simpa only [PS.run_app, PS.run_cons, PS.run_nil, tkn, upV, downV, List.map_cons, List.map_nil] using R.tl⟩
 replace hc2 : holdI op ≠ 4 := by simpa using hc2
 have hL : (if holdI op = 4 then 5 else holdI op) = holdI op := by rw [if_neg hc2]
 rw [hL] at H0;refine wp_skip (sq (rg ?_));refine mv F fun A F=>?_;refine fl F 3 fun A F=>?_;refine sw_cellR F R 0 ⟨rfl, rfl, rfl⟩ rfl rfl rfl (by kernel_rfl) rfl fun A F => ?_;refine sw_at (k := 0) F 4 ⟨rfl, rfl, rfl⟩ rfl rfl (by omega) Tryz.underlying75 (by kernel_rfl) rfl fun A F => ?_;refine sw_rng F (cs := d0.map Fld.val) (r0 w R.bx) ⟨rfl, rfl, rfl⟩ rfl (by kernel_rfl) (by rw [List.length_map, z0]; kernel_rfl) rfl fun A F => ?_;refine mv F fun A F=>?_;refine sw_callW (H0) F R ft.l ⟨rfl, rfl, rfl⟩ rfl rfl fun A w F R => ?_;replace ft := ft.r;refine en (sq (rg ?_));refine mv F fun A F=>?_;refine fl F 0 fun A F=>?_;refine sw_cellR F R 0 ⟨rfl, rfl, rfl⟩ rfl rfl rfl (by kernel_rfl) rfl fun A F => ?_;refine sw_garr F 1 (k := (op).toNat) ⟨rfl, rfl, rfl⟩ (by rw [show (((op).toNat : Nat) : Int) = op by omega]; rfl) (show (op).toNat < 27 by omega) Tryz.underlying124 (by kernel_rfl) rfl fun A F => ?_;refine sw_ext F (HT.expr.at (by have := HT.size; omega) R.bx (k := op) (by omega) (by omega)) ⟨rfl, rfl, rfl⟩ rfl (by kernel_rfl) rfl fun A F => ?_;refine sw_say F R [(opWord op)] ft.l ⟨rfl, rfl, rfl⟩ ⟨rfl, rfl, rfl⟩ rfl (fun _ => rfl) rfl rfl (by kernel_rfl) rfl fun _ A w F R => ?_;replace ft := ft.r;refine en (rg ?_);refine mv F fun A F=>?_;refine fl F 3 fun A F=>?_;refine sw_cellR F R 0 ⟨rfl, rfl, rfl⟩ rfl rfl rfl (by kernel_rfl) rfl fun A F => ?_;refine sw_at (k := 1) F 4 ⟨rfl, rfl, rfl⟩ rfl rfl (by omega) Tryz.underlying75 (by kernel_rfl) rfl fun A F => ?_;refine sw_rng F (cs := d1.map Fld.val) (r1 w R.bx) ⟨rfl, rfl, rfl⟩ rfl (by kernel_rfl) (by rw [List.length_map, z1]; kernel_rfl) rfl fun A F => ?_;refine mv F fun A F=>?_;refine sw_add F ⟨rfl, rfl, rfl⟩ rfl rfl (by omega) rfl fun A F => ?_;refine sw_callW (H1) F R ft.l ⟨rfl, rfl, rfl⟩ rfl rfl fun A w F R => ?_;replace ft := ft.r;refine sw_end ?_;repeat first|refine tn ?_|refine bn ?_
 exact sw_endnone F Tryz.results84 ⟨rfl, by rw [hE]; simpa only [PS.run_app, PS.run_cons, PS.run_nil, tkn, upV, downV, List.map_cons, List.map_nil] using R.tl⟩
def boolK (b : Bool) : Key := if b then [116, 114, 117, 101] else [102, 97, 108, 115, 101]
theorem bool_K (n : Int) : (if n = 1 then [116, 114, 117, 101] else [102, 97, 108, 115, 101]) = boolK (n == 1) := by
 by_cases h : n = 1
 ·subst h; rfl
 ·rw [if_neg h, boolK, if_neg (by simpa using h)]
def ItoM (HP : World → Prop) : Prop := enters Tryz.prog 91 = true ∧ ∀ (n : Int) (w : World), 0 ≤ n → n ≤ 1099511627775 → HP w → Calls Tryz.prog 91 ([.int .i64 n] : List Value).toArray w fun e w' => e = .returned (.string (str (digK n.toNat))) ∧ Below w.heap.size w w'
def FmbM : Prop := enters Tryz.prog 92 = true ∧ ∀ (x : Bool) (w : World), Calls Tryz.prog 92 ([.bool x] : List Value).toArray w fun e w' => e = .returned (.string (str (boolK x))) ∧ Below w.heap.size w w'
theorem atomw_of {W0 : World} (HT : Tabs W0) {HP : World → Prop} (HW : ∀ w, Bx W0 () w → HP w) (Ito : ItoM HP) (Fmb : FmbM) (b : Nat) (op n : Int) (s : Key) (la : Option Addr) (lc : Nat) (es : List (List Fld)) (ev er : List PEv) (ho : 1 ≤ op ∧ op ≤ 26) (h5 : op ≤ 5 ∨ 20 ≤ op)
  (e1 : op = 1 → ev = tkn (digK n.toNat) ∧ 0 ≤ n ∧ n ≤ 1099511627775) (e2 : op = 2 → ev = tkn (if n = 1 then [116, 114, 117, 101] else [102, 97, 108, 115, 101])) (e3 : op = 3 → ev = tkn s)
  (e4 : op = 4 → ∃ ev0, ev = tkn s ++ innV [91] ev0 [93] ∧ ArgW b W0 la es.length 0 1 ev0)
  (e5 : op = 5 → ∃ ev0, ev = tkn s ++ ev0 ∧ WrM b W0 85 [ptr b, .slice la es.length lc] ev0)
  (e6 : 20 ≤ op → ev = tkn (opWord op) ++ er) (e7 : 20 ≤ op → 0 < es.length → ∃ ev0, er = innV [40] ev0 [41] ∧ ArgW b W0 la es.length 0 1 ev0) (e8 : 20 ≤ op → es.length = 0 → er = []) : WrM b W0 83 [ptr b, .agg #[.int .i64 op, .int .i64 n, .string (str s), .slice la es.length lc]] ev := by
 refine ⟨by kernel_rfl, fun w0 E p w R ft => ?_⟩;refine sw_fn Tryz.func83 rfl 71 Tryz.ntmps83 rfl fun A F => ?_;refine sq (rg ?_);refine sw_boxR F R [.int .i64 op, .int .i64 n, .string (str s), .slice la es.length lc] ⟨rfl, rfl, rfl⟩ rfl rfl rfl fun x1 A w F R => ?_;refine en (sq (rg ?_));refine fl F 0 fun A F=>?_;refine sw_cellR F R 0 ⟨rfl, rfl, rfl⟩ rfl rfl rfl (by kernel_rfl) rfl fun A F => ?_;refine en (wp_block ?_);refine sq (rg ?_);refine eqi F fun A F=>?_;refine as1 F fun A F=>?_;refine en (cd F (fun hc2=>?_) fun hc2=>?_)
 ·replace hc2 : op = 1 := by simpa using hc2
  obtain ⟨hev, hn0, hn1⟩ := e1 hc2;have hE : ev = [digK n.toNat].map .tok ++ [] := hev;rw [hE] at ft;refine rg ?_;refine mv F fun A F=>?_;refine fl F 1 fun A F=>?_;refine sw_cellR F R 0 ⟨rfl, rfl, rfl⟩ rfl rfl rfl (by kernel_rfl) rfl fun A F => ?_;refine sw_callR Ito.1 (Ito.2 n w hn0 hn1 (HW w R.bx)) F ⟨rfl, rfl, rfl⟩ rfl rfl ?_;rintro e1 w1 ⟨rfl, hb1⟩;refine ⟨_, rfl, fun A F => ?_⟩;replace R := R.aft hb1;refine sw_say F R [(digK n.toNat)] ft.l ⟨rfl, rfl, rfl⟩ ⟨rfl, rfl, rfl⟩ rfl (fun _ => rfl) rfl rfl (by kernel_rfl) rfl fun _ A w F R => ?_;replace ft := ft.r;refine sw_end ?_;repeat first|refine tn ?_|refine bn ?_
  exact sw_endnone F Tryz.results83 ⟨rfl, by rw [hE]; simpa only [PS.run_app, PS.run_cons, PS.run_nil, tkn, upV, downV, List.map_cons, List.map_nil] using R.tl⟩
 replace hc2 : op ≠ 1 := by simpa using hc2
 refine sq (rg ?_);refine eqi F fun A F=>?_;refine as1 F fun A F=>?_;refine en (cd F (fun hc3=>?_) fun hc3=>?_)
 ·replace hc3 : op = 2 := by simpa using hc3
  have hE : ev = [boolK (n == 1)].map .tok ++ [] := by rw [e2 hc3, bool_K]; rfl
  rw [hE] at ft;refine rg ?_;refine mv F fun A F=>?_;refine fl F 1 fun A F=>?_;refine sw_cellR F R 0 ⟨rfl, rfl, rfl⟩ rfl rfl rfl (by kernel_rfl) rfl fun A F => ?_;refine eqi F fun A F=>?_;refine sw_callR Fmb.1 (Fmb.2 _ w) F ⟨rfl, rfl, rfl⟩ rfl rfl ?_;rintro e1 w1 ⟨rfl, hb1⟩;refine ⟨_, rfl, fun A F => ?_⟩;replace R := R.aft hb1;refine sw_say F R [(boolK (n == 1))] ft.l ⟨rfl, rfl, rfl⟩ ⟨rfl, rfl, rfl⟩ rfl (fun _ => rfl) rfl rfl (by kernel_rfl) rfl fun _ A w F R => ?_;replace ft := ft.r;refine sw_end ?_;repeat first|refine tn ?_|refine bn ?_
  exact sw_endnone F Tryz.results83 ⟨rfl, by rw [hE]; simpa only [PS.run_app, PS.run_cons, PS.run_nil, tkn, upV, downV, List.map_cons, List.map_nil] using R.tl⟩
 replace hc3 : op ≠ 2 := by simpa using hc3
 refine sq (rg ?_);refine eqi F fun A F=>?_;refine as1 F fun A F=>?_;refine en (cd F (fun hc4=>?_) fun hc4=>?_)
 ·replace hc4 : op = 3 := by simpa using hc4
  have hE : ev = [s].map .tok ++ [] := e3 hc4;rw [hE] at ft;refine rg ?_;refine mv F fun A F=>?_;refine fl F 2 fun A F=>?_;refine sw_cellR F R 0 ⟨rfl, rfl, rfl⟩ rfl rfl rfl (by kernel_rfl) rfl fun A F => ?_;refine sw_say F R [s] ft.l ⟨rfl, rfl, rfl⟩ ⟨rfl, rfl, rfl⟩ rfl (fun _ => rfl) rfl rfl (by kernel_rfl) rfl fun _ A w F R => ?_;replace ft := ft.r;refine sw_end ?_;repeat first|refine tn ?_|refine bn ?_
  exact sw_endnone F Tryz.results83 ⟨rfl, by rw [hE]; simpa only [PS.run_app, PS.run_cons, PS.run_nil, tkn, upV, downV, List.map_cons, List.map_nil] using R.tl⟩
 replace hc4 : op ≠ 3 := by simpa using hc4
 refine sq (rg ?_);refine eqi F fun A F=>?_;refine as1 F fun A F=>?_;refine en (cd F (fun hc5=>?_) fun hc5=>?_)
 ·replace hc5 : op = 4 := by simpa using hc5
  obtain ⟨ev0, hev, b0, o0, d0, rfl, hl0, z0, r0, H0⟩ := e4 hc5;have hE : ev = [s].map .tok ++ (innV [91] ev0 [93] ++ []) := by rw [hev, List.append_nil]; rfl
  rw [hE] at ft;refine sq (rg ?_);refine mv F fun A F=>?_;refine fl F 2 fun A F=>?_;refine sw_cellR F R 0 ⟨rfl, rfl, rfl⟩ rfl rfl rfl (by kernel_rfl) rfl fun A F => ?_;refine sw_say F R [s] ft.l ⟨rfl, rfl, rfl⟩ ⟨rfl, rfl, rfl⟩ rfl (fun _ => rfl) rfl rfl (by kernel_rfl) rfl fun _ A w F R => ?_;replace ft := ft.r;refine en (rg ?_);refine mv F fun A F=>?_;refine fl F 3 fun A F=>?_;refine sw_cellR F R 0 ⟨rfl, rfl, rfl⟩ rfl rfl rfl (by kernel_rfl) rfl fun A F => ?_;refine sw_at (k := 0) F 4 ⟨rfl, rfl, rfl⟩ rfl rfl (by omega) Tryz.underlying75 (by kernel_rfl) rfl fun A F => ?_;refine sw_rng F (cs := d0.map Fld.val) (r0 w R.bx) ⟨rfl, rfl, rfl⟩ rfl (by kernel_rfl) (by rw [List.length_map, z0]; kernel_rfl) rfl fun A F => ?_;refine sw_callW (winner_m b W0 [91] [93] d0 z0 ev0 H0) F R ft.l ⟨rfl, rfl, rfl⟩ rfl rfl fun A w F R => ?_;replace ft := ft.r;refine sw_end ?_;repeat first|refine tn ?_|refine bn ?_
  exact sw_endnone F Tryz.results83 ⟨rfl, by rw [hE]; simpa only [PS.run_app, PS.run_cons, PS.run_nil, tkn, upV, downV, List.map_cons, List.map_nil] using R.tl⟩
 replace hc5 : op ≠ 4 := by simpa using hc5
 refine sq (rg ?_);refine eqi F fun A F=>?_;refine as1 F fun A F=>?_;refine en (cd F (fun hc6=>?_) fun hc6=>?_)
 ·replace hc6 : op = 5 := by simpa using hc6
  obtain ⟨ev0, hev, H5⟩ := e5 hc6;have hE : ev = [s].map .tok ++ (ev0 ++ []) := by rw [hev, List.append_nil]; rfl
  rw [hE] at ft;refine sq (rg ?_);refine mv F fun A F=>?_;refine fl F 2 fun A F=>?_;refine sw_cellR F R 0 ⟨rfl, rfl, rfl⟩ rfl rfl rfl (by kernel_rfl) rfl fun A F => ?_;refine sw_say F R [s] ft.l ⟨rfl, rfl, rfl⟩ ⟨rfl, rfl, rfl⟩ rfl (fun _ => rfl) rfl rfl (by kernel_rfl) rfl fun _ A w F R => ?_;replace ft := ft.r;refine en (rg ?_);refine mv F fun A F=>?_;refine fl F 3 fun A F=>?_;refine sw_cellR F R 0 ⟨rfl, rfl, rfl⟩ rfl rfl rfl (by kernel_rfl) rfl fun A F => ?_;refine sw_callW (H5) F R ft.l ⟨rfl, rfl, rfl⟩ rfl rfl fun A w F R => ?_;replace ft := ft.r;refine sw_end ?_;repeat first|refine tn ?_|refine bn ?_
  exact sw_endnone F Tryz.results83 ⟨rfl, by rw [hE]; simpa only [PS.run_app, PS.run_cons, PS.run_nil, tkn, upV, downV, List.map_cons, List.map_nil] using R.tl⟩
 replace hc6 : op ≠ 5 := by simpa using hc6
 have h20 : 20 ≤ op := by omega
 have hE : ev = [opWord op].map .tok ++ (er ++ []) := by rw [e6 h20, List.append_nil]; rfl
 rw [hE] at ft;refine sq (rg ?_);refine mv F fun A F=>?_;refine fl F 0 fun A F=>?_;refine sw_cellR F R 0 ⟨rfl, rfl, rfl⟩ rfl rfl rfl (by kernel_rfl) rfl fun A F => ?_;refine sw_garr F 1 (k := (op).toNat) ⟨rfl, rfl, rfl⟩ (by rw [show (((op).toNat : Nat) : Int) = op by omega]; rfl) (show (op).toNat < 27 by omega) Tryz.underlying124 (by kernel_rfl) rfl fun A F => ?_;refine sw_ext F (HT.expr.at (by have := HT.size; omega) R.bx (k := op) (by omega) (by omega)) ⟨rfl, rfl, rfl⟩ rfl (by kernel_rfl) rfl fun A F => ?_;refine sw_say F R [(opWord op)] ft.l ⟨rfl, rfl, rfl⟩ ⟨rfl, rfl, rfl⟩ rfl (fun _ => rfl) rfl rfl (by kernel_rfl) rfl fun _ A w F R => ?_;replace ft := ft.r;refine en (sq (rg ?_));refine fl F 3 fun A F=>?_;refine sw_cellR F R 0 ⟨rfl, rfl, rfl⟩ rfl rfl rfl (by kernel_rfl) rfl fun A F => ?_;refine sw_len F ⟨rfl, rfl, rfl⟩ rfl Tryz.underlying75 rfl fun A F => ?_;refine gti F fun A F=>?_;refine en (cd F (fun hc7=>?_) fun hc7=>?_)
 ·replace hc7 := of_decide_eq_true hc7;obtain ⟨ev0, her, b0, o0, d0, rfl, hl0, z0, r0, H0⟩ := e7 h20 (by omega);rw [her] at ft hE;refine rg ?_;refine mv F fun A F=>?_;refine fl F 3 fun A F=>?_;refine sw_cellR F R 0 ⟨rfl, rfl, rfl⟩ rfl rfl rfl (by kernel_rfl) rfl fun A F => ?_;refine sw_at (k := 0) F 4 ⟨rfl, rfl, rfl⟩ rfl rfl (by omega) Tryz.underlying75 (by kernel_rfl) rfl fun A F => ?_;refine sw_rng F (cs := d0.map Fld.val) (r0 w R.bx) ⟨rfl, rfl, rfl⟩ rfl (by kernel_rfl) (by rw [List.length_map, z0]; kernel_rfl) rfl fun A F => ?_;refine sw_callW (winner_m b W0 [40] [41] d0 z0 ev0 H0) F R ft.l ⟨rfl, rfl, rfl⟩ rfl rfl fun A w F R => ?_;replace ft := ft.r;refine sw_end ?_;repeat first|refine tn ?_|refine bn ?_
  exact sw_endnone F Tryz.results83 ⟨rfl, by rw [hE]; simpa only [PS.run_app, PS.run_cons, PS.run_nil, tkn, upV, downV, List.map_cons, List.map_nil] using R.tl⟩
 replace hc7 := of_decide_eq_false hc7;have her := e8 h20 (by omega);rw [her] at hE;refine wp_skip ?_;repeat first|refine tn ?_|refine bn ?_
 exact sw_endnone F Tryz.results83 ⟨rfl, by rw [hE]; simpa only [PS.run_app, PS.run_cons, PS.run_nil, tkn, upV, downV, List.map_cons, List.map_nil] using R.tl⟩
def ExW (b : Nat) (W0 : World) (x : XT) : Prop := ∀ (lo : Nat) (fs : List Fld) (r : Int), 1 ≤ r → r ≤ 7 → pvAll fs = x.pv → lieAll lo W0 fs → WrM b W0 72 [ptr b, .agg (fs.map Fld.val).toArray, .int .i64 r] (brkV r x.op x.evs)
theorem row_lie {W0 : World} {lo sz : Nat} {la : Option Addr} {lc : Nat} {es : List (List Fld)} (hA : (Fld.l la lc es).lies lo W0) (h4 : ∀ d ∈ es, d.length = sz) {d : List Fld} (hd : d ∈ es) : lieAll lo W0 d := by
 obtain ⟨k, hk, rfl⟩ := List.getElem_of_mem hd;obtain ⟨b, o, d, _, hd, _, hl, _⟩ := el_at hA h4 hk;rw [List.getElem?_eq_getElem hk] at hd;injection hd with hd
 rw [hd];exact hl
theorem argsw_m {b : Nat} {W0 : World} {l : List XT} (H : ∀ x ∈ l, ExW b W0 x) (lo : Nat) (la : Option Addr) (lc : Nat) (es : List (List Fld)) (he : pvRows es = l.map XT.pv) (hA : (Fld.l la lc es).lies lo W0) : WrM b W0 85 [ptr b, .slice la es.length lc] (argsV (l.map XT.evs)) :=
 wargs_m b W0 lo la lc es l he hA fun x hx d hd hp => by
  have := H x hx lo d 1 (by omega) (by omega) hp (row_lie hA (four_of he) hd)
  rwa [brk_one] at this
theorem argw_at {b : Nat} {W0 : World} {l : List XT} (H : ∀ x ∈ l, ExW b W0 x) {lo : Nat} {la : Option Addr} {lc : Nat} {es : List (List Fld)} (he : pvRows es = l.map XT.pv) (hA : (Fld.l la lc es).lies lo W0) {k : Nat} {y : XT} (hy : l[k]? = some y) (r : Int) (h1 : 1 ≤ r) (h7 : r ≤ 7) : ArgW b W0 la es.length k r (brkV r y.op y.evs) := by
 have hk := (List.getElem?_eq_some_iff.1 hy).1;obtain ⟨b0, o0, hla, hlen, hrow⟩ := rowx_at hA he (by omega);obtain ⟨d, d4, dp, dl, dr⟩ := hrow k y hy;exact ⟨b0, o0, d, hla, by omega, d4, dr, H y (List.mem_of_getElem? hy) lo d r h1 h7 dp dl⟩
theorem argw_one {b : Nat} {W0 : World} {l : List XT} (H : ∀ x ∈ l, ExW b W0 x) {lo : Nat} {la : Option Addr} {lc : Nat} {es : List (List Fld)} (he : pvRows es = l.map XT.pv) (hA : (Fld.l la lc es).lies lo W0) {k : Nat} {y : XT} (hy : l[k]? = some y) : ArgW b W0 la es.length k 1 y.evs := by
 have := argw_at H he hA hy 1 (by omega) (by omega)
 rwa [brk_one] at this
theorem exw_of {W0 : World} (HT : Tabs W0) {HP : World → Prop} (HW : ∀ w, Bx W0 () w → HP w) (Ito : ItoM HP) (Fmb : FmbM) (b : Nat) (op n : Int) (s : Key) (ar : List XT) (hf : (XT.mk op n s ar).fm = true) (H : ∀ y ∈ ar, ExW b W0 y) : ExW b W0 (.mk op n s ar) := by
 intro lo fs r h1 h7 hp hl;obtain ⟨la, lc, es, rfl, he⟩ := inv_E hp;have q := XT.parts hf;rw [XT.pvs_map] at he;have hA : (Fld.l la lc es).lies lo W0 := hl _ (by simp);have hlen : es.length = ar.length := by rw [← pvRows_len, he, List.length_map]
 have hr := hold_rng op;generalize hev : (XT.mk op n s ar).evs = ev;show WrM b W0 72 [ptr b, .agg #[.int .i64 op, .int .i64 n, .string (str s), .slice la es.length lc], .int .i64 r] (brkV r op ev)
 have P : holdI op ≠ 7 → holdI op ≠ 3 → WrM b W0 84 [ptr b, .agg #[.int .i64 op, .int .i64 n, .string (str s), .slice la es.length lc], .int .i64 (holdI op)] ev := fun g1 g2 => by
  have ht := hold_ops q.rng g1 g2;obtain ⟨y, z, rfl, _, _⟩ := q.two ht;rw [← hev, ev_two q ht];exact pairw_of HT b op n s la lc es _ _ q.rng (argw_at H he hA (k := 0) rfl _ (by split <;> omega) (by split <;> omega)) (argw_at H he hA (k := 1) rfl _ (by omega) (by omega))
 have A : holdI op = 7 → WrM b W0 83 [ptr b, .agg #[.int .i64 op, .int .i64 n, .string (str s), .slice la es.length lc]] ev := fun g => by
  have h5 := hold_atom q.rng g
  obtain ⟨er, e6, e7, e8⟩ : ∃ er, (20 ≤ op → ev = tkn (opWord op) ++ er) ∧ (20 ≤ op → 0 < es.length → ∃ ev0, er = innV [40] ev0 [41] ∧ ArgW b W0 la es.length 0 1 ev0) ∧ (20 ≤ op → es.length = 0 → er = []) := by
   by_cases g1 : 24 ≤ op
   ·obtain ⟨y, rfl, _⟩ := q.one fun k => by rw [takesI, if_neg (by unfold isTwo; rw [decide_eq_true_eq]; omega), if_pos (by have := q.rng; omega)]
    exact ⟨innV [40] y.evs [41], fun _ => by rw [← hev, ev_one q ⟨g1, q.rng.2⟩], fun _ _ => ⟨y.evs, rfl, argw_one H he hA rfl⟩, fun _ (h : es.length = 0) => absurd h (by rw [hlen]; simp)⟩
   ·by_cases g2 : 20 ≤ op
    ·have := no_args q ⟨g2, by omega⟩;subst this;exact ⟨[], fun _ => by rw [← hev, ev_bare q ⟨g2, by omega⟩, List.append_nil], fun _ (h : 0 < es.length) => absurd h (by rw [hlen]; simp), fun _ _ => rfl⟩
    ·exact ⟨[], fun h => absurd h g2, fun h => absurd h g2, fun h => absurd h g2⟩
  refine atomw_of HT HW Ito Fmb b op n s la lc es ev er q.rng h5 (fun h => ?_) (fun h => ?_) (fun h => ?_) (fun h => ?_) (fun h => ?_) e6 e7 e8
  ·subst h;rw [← hev, ev_1 q];exact ⟨rfl, q.num⟩
  ·subst h;rw [← hev, ev_2 q]
  ·subst h;rw [← hev, ev_3 q]
  ·subst h;obtain ⟨y, rfl, _⟩ := q.one fun k => rfl;rw [← hev, ev_4 q];exact ⟨_, rfl, argw_one H he hA rfl⟩
  ·subst h;rw [← hev, ev_5 q];exact ⟨_, rfl, argsw_m H lo la lc es he hA⟩
 have Nn : holdI op = 3 → ∃ ev0, ev = upV ++ tkn [110, 111, 116] ++ ev0 ++ downV ∧ ArgW b W0 la es.length 0 3 ev0 := fun g => by
  have := hold_not g;subst this;obtain ⟨y, rfl, _⟩ := q.one fun k => rfl;rw [← hev, ev_8 q];exact ⟨_, rfl, argw_at H he hA rfl 3 (by omega) (by omega)⟩
 have G1 := exprw_of b W0 op n s la lc es 1 ev (fun h => by omega) A P Nn;rw [brk_one] at G1;exact exprw_of b W0 op n s la lc es r ev (fun _ => winner_m b W0 [40] [41] [.i op, .i n, .s s, .l la lc es] rfl ev G1) A P Nn
theorem exw_all {W0 : World} (HT : Tabs W0) {HP : World → Prop} (HW : ∀ w, Bx W0 () w → HP w) (Ito : ItoM HP) (Fmb : FmbM) (b : Nat) : ∀ x : XT, x.fm = true → ExW b W0 x
 | .mk op n s ar, hf => exw_of HT HW Ito Fmb b op n s ar hf fun y hy => exw_all HT HW Ito Fmb b y (by
   have := (XT.parts hf).all;rw [XT.fms_all, List.all_eq_true] at this
   exact this y hy)
termination_by x => SizeOf.sizeOf x
decreasing_by
 have := List.sizeOf_lt_of_mem hy;simp only [XT.mk.sizeOf_spec];omega
open Go.RowKit Go.Shelf
def lays121_ren : Go.Shelf.Ren := ⟨fun | 121 => 92 | 214 => 99 | n => n, fun | 4 => 4 | 9 => 9 | n => n, fun | n => n⟩
theorem lays121 : Go.Proofs.Lays.n121 Tryz.prog lays121_ren := {
 mixed := by kernel_rfl
 f121 := Tryz.func92.trans (congrArg some (by kernel_rfl))
 f214 := Tryz.func99.trans (congrArg some (by kernel_rfl))
 t4 := Tryz.underlying4
 a4 := Tryz.isAgg4
 z4 := Tryz.sizeOf4
 v4 := Tryz.zeroValue4
 t9 := Tryz.underlying9
 a9 := Tryz.isAgg9
 z9 := Tryz.sizeOf9
 v9 := Tryz.zeroValue9 }
def laysM171_ren : Go.Shelf.Ren := ⟨fun | 171 => 91 | 243 => 98 | 246 => 100 | 283 => 101 | 284 => 102 | 285 => 103 | 286 => 104 | 129 => 106 | 317 => 105 | 318 => 107 | 319 => 108 | 320 => 109 | 337 => 110 | 338 => 111 | n => n, fun | 3 => 3 | 9 => 9 | 2 => 2 | 4 => 4 | 171 => 128 | 0 => 0 | 53 => 129 | 37 => 43 | 5 => 5 | 173 => 132 | 212 => 135 | 51 => 136 | 20 => 20 | 213 => 137 | 46 => 138 | 232 => 141 | 233 => 142 | n => n, fun | 17 => 6 | 18 => 7 | 19 => 8 | n => n⟩
theorem laysM171 : Go.Proofs.LaysM.n171 Tryz.prog laysM171_ren := {
 mixed := by kernel_rfl
 f129 := Tryz.func106.trans (congrArg some (by kernel_rfl))
 f171 := Tryz.func91.trans (congrArg some (by kernel_rfl))
 f243 := Tryz.func98.trans (congrArg some (by kernel_rfl))
 f246 := Tryz.func100.trans (congrArg some (by kernel_rfl))
 f283 := Tryz.func101.trans (congrArg some (by kernel_rfl))
 f284 := Tryz.func102.trans (congrArg some (by kernel_rfl))
 f285 := Tryz.func103.trans (congrArg some (by kernel_rfl))
 f286 := Tryz.func104.trans (congrArg some (by kernel_rfl))
 f317 := Tryz.func105.trans (congrArg some (by kernel_rfl))
 f318 := Tryz.func107.trans (congrArg some (by kernel_rfl))
 f319 := Tryz.func108.trans (congrArg some (by kernel_rfl))
 f320 := Tryz.func109.trans (congrArg some (by kernel_rfl))
 f337 := Tryz.func110.trans (congrArg some (by kernel_rfl))
 f338 := Tryz.func111.trans (congrArg some (by kernel_rfl))
 t0 := Tryz.underlying0
 a0 := Tryz.isAgg0
 z0 := Tryz.sizeOf0
 v0 := Tryz.zeroValue0
 t2 := Tryz.underlying2
 a2 := Tryz.isAgg2
 z2 := Tryz.sizeOf2
 v2 := Tryz.zeroValue2
 t3 := Tryz.underlying3
 a3 := Tryz.isAgg3
 z3 := Tryz.sizeOf3
 v3 := Tryz.zeroValue3
 t4 := Tryz.underlying4
 a4 := Tryz.isAgg4
 z4 := Tryz.sizeOf4
 v4 := Tryz.zeroValue4
 t5 := Tryz.underlying5
 a5 := Tryz.isAgg5
 z5 := Tryz.sizeOf5
 v5 := Tryz.zeroValue5
 t9 := Tryz.underlying9
 a9 := Tryz.isAgg9
 z9 := Tryz.sizeOf9
 v9 := Tryz.zeroValue9
 t20 := Tryz.underlying20
 a20 := Tryz.isAgg20
 z20 := Tryz.sizeOf20
 v20 := Tryz.zeroValue20
 t37 := Tryz.underlying43
 a37 := Tryz.isAgg43
 z37 := Tryz.sizeOf43
 v37 := Tryz.zeroValue43
 t46 := Tryz.underlying138
 a46 := Tryz.isAgg138
 z46 := Tryz.sizeOf138
 v46 := Tryz.zeroValue138
 t51 := Tryz.underlying136
 a51 := Tryz.isAgg136
 z51 := Tryz.sizeOf136
 v51 := Tryz.zeroValue136
 t53 := Tryz.underlying129
 a53 := Tryz.isAgg129
 z53 := Tryz.sizeOf129
 v53 := Tryz.zeroValue129
 t171 := Tryz.underlying128
 a171 := Tryz.isAgg128
 z171 := Tryz.sizeOf128
 v171 := Tryz.zeroValue128
 t173 := Tryz.underlying132
 a173 := Tryz.isAgg132
 z173 := Tryz.sizeOf132
 v173 := Tryz.zeroValue132
 t212 := Tryz.underlying135
 a212 := Tryz.isAgg135
 z212 := Tryz.sizeOf135
 v212 := Tryz.zeroValue135
 t213 := Tryz.underlying137
 a213 := Tryz.isAgg137
 z213 := Tryz.sizeOf137
 t232 := Tryz.underlying141
 a232 := Tryz.isAgg141
 z232 := Tryz.sizeOf141
 v232 := Tryz.zeroValue141
 t233 := Tryz.underlying142
 a233 := Tryz.isAgg142
 z233 := Tryz.sizeOf142
 v233 := Tryz.zeroValue142
 g17 := by kernel_rfl
 g18 := by kernel_rfl
 g19 := by kernel_rfl
 i0 := by kernel_rfl
 i2 := by kernel_rfl
 i3 := by kernel_rfl
 i4 := by kernel_rfl
 i5 := by kernel_rfl
 i9 := by kernel_rfl
 i20 := by kernel_rfl
 i37 := by kernel_rfl
 i46 := by kernel_rfl
 i51 := by kernel_rfl
 i53 := by kernel_rfl
 i171 := by kernel_rfl
 i173 := by kernel_rfl
 i212 := by kernel_rfl
 i232 := by kernel_rfl
 i233 := by kernel_rfl
 m17 := by kernel_rfl
 m18 := by kernel_rfl
 m19 := by kernel_rfl }
theorem dig_dec (n : Nat) : Lib.decDigits n = digK n := by
 induction n using Nat.strongRecOn with
 | _ n ih =>
  rw [Lib.decDigits, digK]
  by_cases h : n < 10
  ·rw [dif_pos h, if_pos h]
  ·rw [dif_neg h, if_neg h, ih (n / 10) (by omega)]
def PowT (w : World) : Prop := Lib.TabIs Tryz.prog w "internal/strconv.uint64pow10" .u64 Lib.pow10Tab
theorem pow_bx {W0 w : World} (h : PowT W0) (hb : Bx W0 () w) : PowT w := by
 unfold PowT Lib.TabIs World.var? at *
 cases hg : Tryz.prog.globalNamed "internal/strconv.uint64pow10" with
 | none => rw [hg] at h; cases h
 | some g =>
  rw [hg] at h;simp only [Option.bind_some] at h ⊢
  have hl : g < W0.heap.size := by
   by_cases q : g < W0.heap.size
   ·exact q
   ·rw [Array.getElem?_eq_none (by omega)] at h;cases h
  rw [hb.block g hl];exact h
theorem ito_m : ItoM PowT := ⟨by kernel_rfl, fun n w h0 h1 ht => (Any.strconv_Itoa laysM171 n (by omega) (by omega) w ht).mono (by
 rintro e w' ⟨rfl, k, os, rfl⟩;refine ⟨?_, Lib.below_grow _ _ (Nat.le_refl _) k os⟩;obtain ⟨m, rfl⟩ : ∃ m : Nat, n = m := ⟨n.toNat, by omega⟩;rw [Lib.itoa_nonneg, dig_dec]
 rfl)⟩
theorem fmb_m : FmbM := ⟨by kernel_rfl, fun x w => (Any.strconv_FormatBool lays121 x w).mono (by
 rintro e w' ⟨rfl, rfl⟩;refine ⟨?_, Below.refl _ _⟩
 cases x <;> kernel_rfl)⟩
theorem exw_m {W0 : World} (HT : Tabs W0) (HP : PowT W0) (b : Nat) (x : XT) (h : x.fm = true) : ExW b W0 x := exw_all HT (HP := PowT) (fun w hb => pow_bx HP hb) ito_m fmb_m b x h
end Go.Proofs.YtpofgnlkhkednaaGreatDoor
