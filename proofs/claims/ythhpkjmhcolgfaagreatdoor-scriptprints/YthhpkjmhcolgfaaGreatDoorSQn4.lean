import Derived.Test.YthhpkjmhcolgfaaGreatDoorSQn3
namespace Go.Proofs.YthhpkjmhcolgfaaGreatDoor
open Go.RowKit
set_option linter.unusedVariables false
set_option linter.unusedSimpArgs false
set_option maxRecDepth 20000
set_option maxHeartbeats 8000000
def PaX (text : Key) (v : EV) (er : Int) : Prop :=
 (2048 < text.length ∧ v = ctP [] ([], [], []) ∧ er = 3) ∨
 (text.length ≤ 2048 ∧ ∃ (x : EV) (S' : ES), Rv parseM (st0 text) x S' ∧ ((S' = .error er ∧ er ≠ 0 ∧ v = ctP [] ([], [], [])) ∨ (∃ σ, S' = .ok σ ∧ er = 0 ∧ v = x)))
theorem sh_zeroX : ShC (ctP [] ([], [], [])) := ⟨[], [], [], [], rfl, AllP.nil, AllP.nil, AllP.nil⟩
theorem PaX.shapeX {text : Key} {v : EV} {er : Int} (h : PaX text v er) : ShC v := by
 rcases h with ⟨_, rfl, _⟩ | ⟨_, x, S, h2, ⟨_, _, rfl⟩ | ⟨σ, rfl, _, rfl⟩⟩
 ·exact sh_zeroX
 ·exact sh_zeroX
 ·exact Has.rv h2 parse_has
theorem PaE.outX {text : Key} {w w' : World} {e : Ending} (h : PaE text w e w') : Below w.heap.size w w' ∧ ∃ nm a1 c1 e1 a2 c2 e2 a3 c3 e3 er, e = .returned (.tuple #[.agg ((ctF nm a1 c1 e1 a2 c2 e2 a3 c3 e3).map Fld.val).toArray, .int .i64 er]) ∧ lieAll w.heap.size w' (ctF nm a1 c1 e1 a2 c2 e2 a3 c3 e3) ∧ PaX text (pvAll (ctF nm a1 c1 e1 a2 c2 e2 a3 c3 e3)) er := by
 obtain ⟨hb, h⟩ := h;refine ⟨hb, ?_⟩;have hz : lieAll w.heap.size w' (ctF [] none 0 [] none 0 [] none 0 []) := lie_cons trivial (lie_cons (lies_nil _ _) (lie_cons (lies_nil _ _) (lie_cons (lies_nil _ _) (lie_nil _ _))));rcases h with ⟨h1, rfl⟩ | ⟨h1, x, S', h2, ⟨er, he, rfl, rfl⟩ | ⟨σ, nm, a1, c1, e1, a2, c2, e2, a3, c3, e3, rfl, rfl, rfl, hl⟩⟩
 ·exact ⟨[], none, 0, [], none, 0, [], none, 0, [], 3, rfl, hz, .inl ⟨h1, rfl, rfl⟩⟩
 ·exact ⟨[], none, 0, [], none, 0, [], none, 0, [], er, rfl, hz, .inr ⟨h1, x, _, h2, .inl ⟨rfl, he, rfl⟩⟩⟩
 ·exact ⟨nm, a1, c1, e1, a2, c2, e2, a3, c3, e3, 0, rfl, hl, .inr ⟨h1, _, _, h2, .inr ⟨σ, rfl, rfl, rfl⟩⟩⟩
theorem sw_extr {P : Program} {ops : Array Oper} {Q : Exit → Act → World → Prop} {a : Act} {w : World} {rest : List Oper} {o : Oper} {N : Nat} {L : List (Nat × Value)} (F : Fm N L a) {i j : Nat} {x : Operand} {vs : Array Value} {v : Value} (h : Is o (some i) (.extract x j)) (hx : opv L x = some (.tuple vs)) (hv : vs[j]? = some v) (hi : Nat.blt i N = true) (K : ∀ a', Fm N ((i, v) :: L) a' → wpList P ops Q rest a' w) : wpList P ops Q (o :: rest) a w :=
 sw_val F h.1 h.2.2 hi (by unfold execOp; rw [h.2.1]; simp only [F.ev hx]; simp [Instr.extract, hv]) K
theorem PaX.weight {text : Key} {v : EV} {er : Int} (h : PaX text v er) (ht : text.length ≤ 65536) : wE v ≤ 2097152 + 4 := by
 have z : wE (ctP [] ([], [], [])) = 4 := rfl;rcases h with ⟨_, rfl, _⟩ | ⟨_, x, S, h2, ⟨_, _, rfl⟩ | ⟨σ, rfl, _, rfl⟩⟩
 ·omega
 ·omega
 ·have h1 := Cs.rv h2 parse_cs;have h3 : bud ⟨text, .none, 0⟩ = 32 * text.length := by unfold bud; rw [if_pos (.inr rfl)]; rfl
  have h4 : bud ⟨text, .none, 0⟩ ≤ 2097152 := by omega
  exact Nat.le_trans h1 (Nat.le_trans h4 (by omega))
theorem ct_shapes {nm : Key} {a1 a2 a3 : Option Addr} {c1 c2 c3 : Nat} {e1 e2 e3 : List (List Fld)} (h : ShC (pvAll (ctF nm a1 c1 e1 a2 c2 e2 a3 c3 e3))) : AllP ShP (pvRows e1) ∧ AllP ShT (pvRows e2) ∧ ∀ f ∈ pvRows e3, ShF f := by
 obtain ⟨s, l, m, r, qs, s1, s2, s3⟩ := h;have h : ([.s nm, .l (pvRows e1), .l (pvRows e2), .l (pvRows e3)] : EV) = [.s s, .l l, .l m, .l r] := qs;injection h with h1 h
 injection h with h2 h
 injection h with h3 h
 injection h with h4 h
 injection h2 with h2
 injection h3 with h3
 injection h4 with h4
 rw [h2, h3, h4];exact ⟨s1, s2, s3⟩
theorem wL_map {α : Type} (g : α → EV) (hg : ∀ x, 1 ≤ wE (g x)) : ∀ l : List α, l.length ≤ wL (l.map g)
 | [] => Nat.le_refl _
 | x :: l => by
  have h1 := hg x;have h2 := wL_map g hg l;show l.length + 1 ≤ wE (g x) + wL (l.map g);omega
theorem ct_room {c : CTr} (h : wE c.pv ≤ 1000000000) : c.sl.length + c.tb.length ≤ 1000000000 ∧ Fit PS.zero c.evs ∧ Rm PS.zero (wtV c.evs + 2) := by
 have hw := wt_ct c;refine ⟨?_, fit_ct h, ?_, ?_, ?_, by decide, by decide⟩
 ·rw [CTr.pv, we_C] at h;dsimp only at h;have h1 := wL_map paP (fun p => by rw [we_P]; omega) c.sl;have h2 := wL_map tbV (fun p => by rw [tbV, we_T]; omega) c.tb;omega
 ·show 0 + (wtV c.evs + 2) ≤ _; omega
 ·show _ ≤ 0 - ((wtV c.evs + 2 : Nat) : Int); omega
 ·show 0 + ((wtV c.evs + 2 : Nat) : Int) ≤ _; omega
structure GlP (w : World) : Prop where
 tabs : Tabs w
 pow : PowT w
 form : w.rangeAt 4 0 (flatF formL)
 step : w.rangeAt 1 0 stepV
theorem TabW.bx {W w : World} {g n : Nat} {f : Int → Key} (h : TabW W g n f) (hg : g < W.heap.size) (hb : Bx W () w) : TabW w g n f := fun k hk => (World.cell?_of_block (a := ⟨g, k, none⟩) (hb.block g hg)).trans (h k hk)
theorem GlP.bx {w0 w : World} (h : GlP w0) (hb : Bx w0 () w) : GlP w := by
 have hs := h.tabs.size;have hz := hb.size;exact ⟨⟨h.tabs.kind.bx (by omega) hb, h.tabs.step.bx (by omega) hb, h.tabs.expr.bx (by omega) hb, by omega⟩, pow_bx h.pow hb, bx_range hb (by omega) h.form, bx_range hb (by omega) h.step⟩
theorem prints_any (text name : Key) (tT nN : Int) (hT : -9223372036854775808 ≤ tT ∧ tT ≤ 9223372036854775807) (hN : -9223372036854775808 ≤ nN ∧ nN ≤ 9223372036854775807) (htl : text.length ≤ 4611686018427387903) (hnl : name.length ≤ 4611686018427387903) (w0 : World) (g0 : GlP w0) : Calls Tryz.prog 3 ([.agg #[.string (str text), .int .i64 tT, .int .i64 nN, .string (str name)]] : List Value).toArray w0 fun e w' => e = .returned (.bool true) ∧ Below w0.heap.size w0 w' := by
 have M := bx_begin (w0 := w0) (w := w0) (Below.refl _ _);refine sw_fn Tryz.func3 rfl 69 Tryz.ntmps3 rfl fun A F => ?_;refine sq (rg ?_);refine sw_box F M [.string (str text), .int .i64 tT, .int .i64 nN, .string (str name)] ⟨rfl, rfl, rfl⟩ rfl rfl rfl fun x1 A w F M => ?_;refine as1 F fun A F=>?_;refine en (sq (sq (rg ?_)));refine fl F 0 fun A F=>?_;refine ce F M 0 fun A F=>?_;refine sw_slen F ⟨rfl, rfl, rfl⟩ rfl Tryz.underlying9 rfl fun A F => ?_;refine fl F 3 fun A F=>?_;refine ce F M 0 fun A F=>?_;refine sw_slen F ⟨rfl, rfl, rfl⟩ rfl Tryz.underlying9 rfl fun A F => ?_;refine sw_add F ⟨rfl, rfl, rfl⟩ rfl rfl (by omega) rfl fun A F => ?_;refine gti F fun A F=>?_;refine en (cd F (fun hc2=>?_) fun hc2=>?_)
 ·rw [hc2] at F;refine sq (rg ?_);refine as1 F fun A F=>?_;refine en (wp_ret ?_);repeat first|refine tr ?_|refine br ?_
  exact sw_rettmp F Tryz.results3 rfl ⟨rfl, M.st⟩
 rw [hc2] at F;have htext : text.length ≤ 65536 := by have := of_decide_eq_false hc2; omega
 have hname : name.length ≤ 65536 := by have := of_decide_eq_false hc2; omega
 refine wp_skip (sq (rg ?_));refine fl F 0 fun A F=>?_;refine ce F M 0 fun A F=>?_;refine sw_callR (by kernel_rfl) (rparse_p text _) F ⟨rfl, rfl, rfl⟩ rfl rfl ?_;intro e1 w1 h1;obtain ⟨hb1, nm, sa, sc, se, ta, tc, te, fa, fc, fe, er, rfl, hl1, hv1⟩ := h1.outX;refine ⟨_, rfl, fun A F => ?_⟩;replace M := M.ret (s' := ()) (But.of_below hb1) (M.st.trans (hb1.mono M.mem.le)) hl1;clear h1;obtain ⟨cT, hcv⟩ := ct_of hv1.shapeX;have hwc := hv1.weight htext;obtain ⟨hm1, hf1, hr1⟩ := ct_room (c := cT) (by rw [hcv]; omega);obtain ⟨hsS, hsT, hsF⟩ := ct_shapes hv1.shapeX
 have hwv : wE (pvAll (ctF nm sa sc se ta tc te fa fc fe)) = nm.length + 4 + wL (pvRows se) + wL (pvRows te) + wL (pvRows fe) := by
  show wE (ctP nm (_, _, _)) = _;rw [we_C]
 refine mv F fun A F=>?_;refine sw_extr F ⟨rfl, rfl, rfl⟩ rfl rfl rfl fun A F => ?_;refine sw_extr F ⟨rfl, rfl, rfl⟩ rfl rfl rfl fun A F => ?_;refine alo F M [.string ⟨#[]⟩, .slice none 0 0, .slice none 0 0, .slice none 0 0] fun x3 A w F M=>?_;refine sta F M 0 fun w M=>?_;dsimp only [List.set] at M;refine as1 F fun A F=>?_;refine en (sq (rg ?_));refine ala F M 0 fun A F=>?_;have hlc := (M.mem.val (k := 1) rfl).mono (Nat.zero_le _);have G1 := g0.bx M.st;refine sw_callR (by kernel_rfl) (print_p G1.tabs G1.pow G1.form G1.step cT _ 0 (ctF nm sa sc se ta tc te fa fc fe) hcv.symm hlc (Below.refl _ _) hm1 hr1) F ⟨rfl, rfl, rfl⟩ rfl rfl ?_;rintro e2 w ⟨rfl, hb2⟩;refine ⟨_, rfl, fun A F => ?_⟩;replace M := M.after2 hb2;clear hb2 hlc;refine mv F fun A F=>?_;refine sw_extr F ⟨rfl, rfl, rfl⟩ rfl rfl rfl fun A F => ?_;refine sw_extr F ⟨rfl, rfl, rfl⟩ rfl rfl rfl fun A F => ?_;refine as1 F fun A F=>?_;refine as1 F fun A F=>?_;refine en (sq (rg ?_));refine ala F M 0 fun A F=>?_;have hlc := (M.mem.val (k := 1) rfl).mono (Nat.zero_le _);refine sw_callR (by kernel_rfl) (rprint_p cT _ _ 0 (ctF nm sa sc se ta tc te fa fc fe) hcv.symm hlc (Below.refl _ _) hf1) F ⟨rfl, rfl, rfl⟩ rfl rfl ?_;rintro e2 w ⟨rfl, hb2⟩;refine ⟨_, rfl, fun A F => ?_⟩;replace M := M.after2 hb2;clear hb2 hlc;refine mv F fun A F=>?_;refine sw_extr F ⟨rfl, rfl, rfl⟩ rfl rfl rfl fun A F => ?_;refine sw_extr F ⟨rfl, rfl, rfl⟩ rfl rfl rfl fun A F => ?_;refine as1 F fun A F=>?_;refine as1 F fun A F=>?_;refine en (sq (rg ?_));refine ala F M 0 fun A F=>?_;refine ala F M 2 fun A F=>?_;have hlc := (M.mem.val (k := 1) rfl).mono (Nat.zero_le _);refine sw_callR (by kernel_rfl) (bend_m _ nm sa ta fa sc tc fc se te fe text name tT nN hT hN (hlc _ (by simp [ctF])) (hlc _ (by simp [ctF])) (hlc _ (by simp [ctF])) hsS hsT hsF (by omega) (by omega) _ (Nat.le_refl _)) F ⟨rfl, rfl, rfl⟩ rfl rfl ?_;rintro e3 w ⟨fsD, rfl, hbD, hlD, hsD, hwD⟩;refine ⟨_, rfl, fun A F => ?_⟩;have hW : Below w0.heap.size w0 w := M.st.trans (hbD.mono M.mem.le);have gD := g0.bx hW;clear M hlc;have M := bx_begin (w0 := w) (w := w) (Below.refl _ _);obtain ⟨cD, hdv⟩ := ct_of hsD;obtain ⟨hm2, hf2, hr2⟩ := ct_room (c := cD) (by rw [hdv]; omega);have hd4 : fsD.length = 4 := by rw [← pvAll_len]; obtain ⟨_, _, _, _, e, _⟩ := hsD; rw [e]; rfl
 refine alo F M [.string ⟨#[]⟩, .slice none 0 0, .slice none 0 0, .slice none 0 0] fun x4 A w F M=>?_;refine sw_setAll (us := fsD.map Fld.val) F M 0 ⟨rfl, rfl, rfl⟩ rfl rfl rfl (by rw [List.length_map, hd4]; kernel_rfl) (by rw [List.length_map, hd4]; rfl) (fldv_one fsD) fun w M => ?_;dsimp only [List.set] at M;refine en (sq (rg ?_));refine sw_all F M 0 ⟨rfl, rfl, rfl⟩ rfl rfl (by kernel_rfl) (by rw [List.length_map, hd4]; kernel_rfl) rfl fun A F => ?_;have hlc := lie_old hlD M.st;have G1 := gD.bx M.st;refine sw_callR (by kernel_rfl) (print_p G1.tabs G1.pow G1.form G1.step cD _ 0 fsD hdv.symm hlc (Below.refl _ _) hm2 hr2) F ⟨rfl, rfl, rfl⟩ rfl rfl ?_;rintro e2 w ⟨rfl, hb2⟩;refine ⟨_, rfl, fun A F => ?_⟩;replace M := M.after2 hb2;clear hb2 hlc;refine mv F fun A F=>?_;refine sw_extr F ⟨rfl, rfl, rfl⟩ rfl rfl rfl fun A F => ?_;refine sw_extr F ⟨rfl, rfl, rfl⟩ rfl rfl rfl fun A F => ?_;refine as1 F fun A F=>?_;refine as1 F fun A F=>?_;refine en (sq (rg ?_));refine sw_all F M 0 ⟨rfl, rfl, rfl⟩ rfl rfl (by kernel_rfl) (by rw [List.length_map, hd4]; kernel_rfl) rfl fun A F => ?_;have hlc := lie_old hlD M.st;refine sw_callR (by kernel_rfl) (rprint_p cD _ _ 0 fsD hdv.symm hlc (Below.refl _ _) hf2) F ⟨rfl, rfl, rfl⟩ rfl rfl ?_;rintro e2 w ⟨rfl, hb2⟩;refine ⟨_, rfl, fun A F => ?_⟩;replace M := M.after2 hb2;clear hb2 hlc;refine mv F fun A F=>?_;refine sw_extr F ⟨rfl, rfl, rfl⟩ rfl rfl rfl fun A F => ?_;refine sw_extr F ⟨rfl, rfl, rfl⟩ rfl rfl rfl fun A F => ?_;refine as1 F fun A F=>?_;refine as1 F fun A F=>?_;refine en (sq (rg ?_));refine mv F fun A F=>?_;refine mv F fun A F=>?_;refine sw_seq2 F ⟨rfl, rfl, rfl⟩ rfl rfl rfl fun A F => ?_;rw [beq_self_eq_true] at F;refine mv F fun A F=>?_;refine on' F 3 ?_;refine mv F fun A F=>?_;refine on' F 3 ?_;refine mv F fun A F=>?_;refine on' F 3 ?_;refine eqi F fun A F=>?_;rw [beq_self_eq_true] at F;refine pkT F fun A F=>?_;refine mv F fun A F=>?_;refine on' F 8 ?_;refine mv F fun A F=>?_;refine on' F 8 ?_;refine mv F fun A F=>?_;refine on' F 8 ?_;refine sw_seq2 F ⟨rfl, rfl, rfl⟩ rfl rfl rfl fun A F => ?_;rw [beq_self_eq_true] at F;refine pkT F fun A F=>?_;refine mv F fun A F=>?_;refine on' F 13 ?_;refine mv F fun A F=>?_;refine on' F 13 ?_;refine mv F fun A F=>?_;refine on' F 13 ?_;refine eqi F fun A F=>?_;rw [beq_self_eq_true] at F;refine pkT F fun A F=>?_;refine as1 F fun A F=>?_;refine en (wp_ret ?_);repeat first|refine tr ?_|refine br ?_
 exact sw_rettmp F Tryz.results3 rfl ⟨rfl, hW.trans (Below.mono M.st hW.size)⟩
end Go.Proofs.YthhpkjmhcolgfaaGreatDoor
