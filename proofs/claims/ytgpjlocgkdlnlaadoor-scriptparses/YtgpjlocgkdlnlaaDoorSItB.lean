/- The program's reader: items, contracts. -/
import Derived.Test.YtgpjlocgkdlnlaaDoorM22
namespace Go.Proofs.YtgpjlocgkdlnlaaDoor
open Go.RowKit
set_option linter.unusedVariables false
set_option linter.unusedSimpArgs false

def itemX (n : Nat) (l1 l2 l3 : Int) (c : CT) : PM CT :=
  bnd (isT kSlot) fun a => ifT a (bnd (roomT (l1 + l2) 32) fun _ => bnd (takeT kSlot) fun _ => bnd paramT fun p => bnd (takeT [59]) fun _ => pur (c.1 ++ [paP p], c.2.1, c.2.2))
    (bnd (isT kMap) fun a => ifT a (bnd (roomT (l1 + l2) 32) fun _ => bnd tableT fun t => pur (c.1, c.2.1 ++ [t], c.2.2))
      (bnd (isT kFn) fun a => ifT a (bnd (roomT l3 32) fun _ => bnd (fnM n) fun f => pur (c.1, c.2.1, c.2.2 ++ [f]))
        (bnd (isT kOpen) fun a => ifT a (bnd (roomT l3 32) fun _ => bnd (fnM n) fun f => pur (c.1, c.2.1, c.2.2 ++ [f])) wrongT)))
theorem then_norm {P : Program} {next : Act → World → Prop} {Q : Exit → Act → World → Prop} {a : Act} {w : World} (h : next a w) : Exit.then next Q .normal a w := h
theorem block_norm {id : Nat} {Q : Exit → Act → World → Prop} {a : Act} {w : World} (h : Q .normal a w) : Exit.inBlock id Q .normal a w := h
set_option maxRecDepth 8000 in
set_option maxHeartbeats 3200000 in
theorem item_c (b cx : Nat) (nm : Key) (a1 : Option Addr) (c1 : Nat) (e1 : List (List Fld)) (a2 : Option Addr) (c2 : Nat) (e2 : List (List Fld)) (a3 : Option Addr) (c3 : Nat) (e3 : List (List Fld)) (Er : List Ent) (wO w : World) (S : ES) (M : Mm (RdX b) (fun k => k = b) wO (.box cx [.string (str nm), .slice a1 e1.length c1, .slice a2 e2.length c2, .slice a3 e3.length c3] 26 :: .row (.slice a1 e1.length c1) 65 2 e1 :: .row (.slice a2 e2.length c2) 48 3 e2 :: .row (.slice a3 e3.length c3) 51 5 e3 :: Er) S w) (hlen : e1.length + e2.length + e3.length ≤ 32790) : Calls Tryd.prog 23 ([ptr b, ptr cx] : List Value).toArray w fun e w' => e = .returned (.tuple #[]) ∧ ∃ a1 c1 f1 a2 c2 f2 a3 c3 f3 S', Mm (RdX b) (fun k => k = b) wO (.box cx [.string (str nm), .slice a1 f1.length c1, .slice a2 f2.length c2, .slice a3 f3.length c3] 26 :: .row (.slice a1 f1.length c1) 65 2 f1 :: .row (.slice a2 f2.length c2) 48 3 f2 :: .row (.slice a3 f3.length c3) 51 5 f3 :: Er) S' w' ∧ f1.length + f2.length + f3.length ≤ e1.length + e2.length + e3.length + 1 ∧ Rv (fun n => itemM n (pvRows e1, pvRows e2, pvRows e3)) S (pvRows f1, pvRows f2, pvRows f3) S' := by
  have kn := (Kn.here (F := fun n => itemM n (pvRows e1, pvRows e2, pvRows e3)) (S := S)).to (G' := fun n => itemX n e1.length e2.length e3.length (pvRows e1, pvRows e2, pvRows e3)) fun n => by unfold itemM itemX; simp only [pvRows_len]
  refine sw_fn Tryd.func23 rfl 87 Tryd.ntmps23 rfl fun A F => ?_
  refine wp_block ?_
  refine sw_seq ?_
  refine sw_reg ?_
  refine sw_move F ⟨rfl, rfl, rfl⟩ rfl rfl fun A F => ?_
  refine sw_call0 (is_m [115, 108, 111, 116] b S) F M ⟨rfl, rfl, rfl⟩ rfl rfl ?_
  rintro _ _ A w ⟨_, rfl, rfl⟩ F M
  replace kn := kn.step (Rv.of (rel_is [115, 108, 111, 116] S))
  refine sw_asg F ⟨rfl, rfl, rfl⟩ rfl rfl fun A F => ?_
  refine sw_end ?_
  show Code.wp _ _ _ _ _
  refine sw_cond F rfl (fun hc1 => ?_) (fun hc1 => ?_)
  · skip
    replace kn := kn.ifT_true hc1
    rw [hc1] at F
    refine sw_seq ?_
    refine wp_region_held (S := fun w' => w'.cell? ⟨cx, 1, none⟩ = some (.slice a1 e1.length c1) ∧ w'.cell? ⟨cx, 2, none⟩ = some (.slice a2 e2.length c2)) (by kernel_rfl) ?_
    show wpAnyH _ _ _ _ _ _ _ _ w.drew
    replace M := M.drew
    have hS : w.drew.cell? ⟨cx, 1, none⟩ = some (.slice a1 e1.length c1) ∧ w.drew.cell? ⟨cx, 2, none⟩ = some (.slice a2 e2.length c2) := ⟨M.cell 0 rfl rfl, M.cell 0 rfl rfl⟩
    refine sd_move F 0 rfl ⟨rfl, rfl, rfl⟩ rfl (by kernel_rfl) (by kernel_rfl) (by kernel_rfl) (fun _ _ _ h => h) rfl hS fun A F => ?_
    refine sd_move F 1 rfl ⟨rfl, rfl, rfl⟩ rfl (by kernel_rfl) (by kernel_rfl) (by kernel_rfl) (fun _ _ _ h => h) rfl hS fun A F => ?_
    refine sd_nil F 2 rfl ⟨rfl, rfl, rfl⟩ rfl (by kernel_rfl) (by kernel_rfl) (by kernel_rfl) (fun _ _ _ h => h) rfl hS fun A F => ?_
    refine sd_fld F 3 1 rfl ⟨rfl, rfl, rfl⟩ rfl (by kernel_rfl) rfl (by kernel_rfl) (by kernel_rfl) (by kernel_rfl) (fun _ _ _ h => h) rfl hS fun A F => ?_
    refine sd_cell F 4 rfl ⟨rfl, rfl, rfl⟩ rfl (by kernel_rfl) (fun _ h => h.1) (by kernel_rfl) (by kernel_rfl) (by kernel_rfl) (fun _ _ _ h => h) rfl hS fun A F => ?_
    refine sd_len F 5 rfl ⟨rfl, rfl, rfl⟩ rfl (Tryd.underlying22) (by kernel_rfl) (by kernel_rfl) (by kernel_rfl) (fun _ _ _ h => h) rfl hS fun A F => ?_
    refine sd_move F 6 rfl ⟨rfl, rfl, rfl⟩ rfl (by kernel_rfl) (by kernel_rfl) (by kernel_rfl) (fun _ _ _ h => h) rfl hS fun A F => ?_
    refine sd_nil F 7 rfl ⟨rfl, rfl, rfl⟩ rfl (by kernel_rfl) (by kernel_rfl) (by kernel_rfl) (fun _ _ _ h => h) rfl hS fun A F => ?_
    refine sd_fld F 8 2 rfl ⟨rfl, rfl, rfl⟩ rfl (by kernel_rfl) rfl (by kernel_rfl) (by kernel_rfl) (by kernel_rfl) (fun _ _ _ h => h) rfl hS fun A F => ?_
    refine sd_cell F 9 rfl ⟨rfl, rfl, rfl⟩ rfl (by kernel_rfl) (fun _ h => h.2) (by kernel_rfl) (by kernel_rfl) (by kernel_rfl) (fun _ _ _ h => h) rfl hS fun A F => ?_
    refine sd_len F 10 rfl ⟨rfl, rfl, rfl⟩ rfl (Tryd.underlying23) (by kernel_rfl) (by kernel_rfl) (by kernel_rfl) (fun _ _ _ h => h) rfl hS fun A F => ?_
    refine sd_add F 11 rfl ⟨rfl, rfl, rfl⟩ rfl rfl (by omega) (by kernel_rfl) (by kernel_rfl) (by kernel_rfl) (fun _ _ _ h => h) rfl hS fun A F => ?_
    clear hS
    refine sd_one 12 rfl (by kernel_rfl) rfl ?_
    refine sw_call0 (room_m ((e1.length : Int) + (e2.length : Int)) 32 b S) F M ⟨rfl, rfl, rfl⟩ rfl rfl ?_
    rintro _ S2 A w ⟨_, h3⟩ F M
    replace kn := kn.step h3
    have hS : w.cell? ⟨cx, 1, none⟩ = some (.slice a1 e1.length c1) ∧ w.cell? ⟨cx, 2, none⟩ = some (.slice a2 e2.length c2) := ⟨M.cell 0 rfl rfl, M.cell 0 rfl rfl⟩
    refine sw_end ⟨hS, ?_⟩
    clear hS
    refine wpAnyH_done (by kernel_rfl) ?_ _
    show Code.wp _ _ _ _ _
    refine sw_seq ?_
    refine sw_reg ?_
    refine sw_move F ⟨rfl, rfl, rfl⟩ rfl rfl fun A F => ?_
    refine sw_call0 (take_m [115, 108, 111, 116] b S2) F M ⟨rfl, rfl, rfl⟩ rfl rfl ?_
    rintro _ S4 A w ⟨_, h5⟩ F M
    replace kn := kn.step h5
    refine sw_end ?_
    show Code.wp _ _ _ _ _
    refine sw_seq ?_
    refine wp_region_late (fun w' => w'.cell? ⟨cx, 1, none⟩ = some (.slice a1 e1.length c1)) 11 (by kernel_rfl) ?_
    show wpAnyM _ _ _ _ _ _ _ _ _ w.drew
    replace M := M.drew
    have hS : w.drew.cell? ⟨cx, 1, none⟩ = some (.slice a1 e1.length c1) := M.cell 0 rfl rfl
    refine sm_move F 0 rfl ⟨rfl, rfl, rfl⟩ rfl (by kernel_rfl) (by kernel_rfl) (by kernel_rfl) rfl (fun _ _ _ h => h) rfl hS fun A F => ?_
    refine sm_move F 1 rfl ⟨rfl, rfl, rfl⟩ rfl (by kernel_rfl) (by kernel_rfl) (by kernel_rfl) rfl (fun _ _ _ h => h) rfl hS fun A F => ?_
    refine sm_nil F 2 rfl ⟨rfl, rfl, rfl⟩ rfl (by kernel_rfl) (by kernel_rfl) (by kernel_rfl) rfl (fun _ _ _ h => h) rfl hS fun A F => ?_
    refine sm_fld F 3 1 rfl ⟨rfl, rfl, rfl⟩ rfl (by kernel_rfl) rfl (by kernel_rfl) (by kernel_rfl) (by kernel_rfl) rfl (fun _ _ _ h => h) rfl hS fun A F => ?_
    refine sm_cell F 4 rfl ⟨rfl, rfl, rfl⟩ rfl (by kernel_rfl) (fun _ h => h) (by kernel_rfl) (by kernel_rfl) (by kernel_rfl) (by kernel_rfl) rfl (fun _ _ _ h => h) rfl hS fun A F => ?_
    refine sm_move F 5 rfl ⟨rfl, rfl, rfl⟩ rfl (by kernel_rfl) (by kernel_rfl) (by kernel_rfl) rfl (fun _ _ _ h => h) rfl hS fun A F => ?_
    clear hS
    refine sm_one 6 rfl (by kernel_rfl) rfl ?_
    refine sw_call (param_m b S4) F M ⟨rfl, rfl, rfl⟩ rfl rfl ?_
    rintro _ _ S6 A w ⟨s8, k9, rfl, rfl, hkk9, h7⟩ F M
    replace kn := kn.step h7
    have hS : w.cell? ⟨cx, 1, none⟩ = some (.slice a1 e1.length c1) := M.cell 1 rfl rfl
    refine sw_end ⟨fun _ => hS, ?_⟩
    clear hS
    refine sm_one 7 rfl (by kernel_rfl) rfl ?_
    refine sw_mkrow (ety := 65) (sz := 2) (z := .agg #[.string ⟨#[]⟩, .int .i64 0]) F M _ [[.s s8, .i k9]] ⟨rfl, rfl, rfl⟩ rfl (by kernel_rfl) (by kernel_rfl) rfl (by kernel_rfl) rfl ?_ ?_ rfl fun x11 A w F M => ?_
    · intro g hg
      simp only [List.mem_cons, List.not_mem_nil, or_false] at hg
      rcases hg with rfl
      · exact ⟨rfl, (M.mem.vals 0 rfl).1⟩
    · intro i f b hf hm g hg
      simp only [List.mem_cons, List.not_mem_nil, or_false] at hg
      rcases hg with rfl
      · exact (M.mem.vals 0 rfl).2 i f b hf hm
    have hS : w.cell? ⟨cx, 1, none⟩ = some (.slice a1 e1.length c1) := M.cell 2 rfl rfl
    refine sw_end ⟨fun _ => hS, ?_⟩
    clear hS
    refine sm_one 8 rfl (by kernel_rfl) rfl ?_
    refine sw_appRow (z := .agg #[.string ⟨#[]⟩, .int .i64 0]) F M 3 0 ⟨rfl, rfl, rfl⟩ rfl rfl rfl (by decide) rfl rfl rfl (by kernel_rfl) (by kernel_rfl) rfl rfl (by (try simp only [List.length_append, List.length_cons, List.length_nil]); omega) rfl fun la13 lc14 A w F M => ?_
    simp only [List.set_cons_zero, List.set_cons_succ] at M
    have hS : w.cell? ⟨cx, 1, none⟩ = some (.slice a1 e1.length c1) := M.cell 2 rfl rfl
    refine sw_end ⟨fun _ => hS, ?_⟩
    refine sm_nil F 9 rfl ⟨rfl, rfl, rfl⟩ rfl (by kernel_rfl) (by kernel_rfl) (by kernel_rfl) rfl (fun _ _ _ h => h) rfl hS fun A F => ?_
    refine sm_fld F 10 1 rfl ⟨rfl, rfl, rfl⟩ rfl (by kernel_rfl) rfl (by kernel_rfl) (by kernel_rfl) (by kernel_rfl) rfl (fun _ _ _ h => h) rfl hS fun A F => ?_
    clear hS
    refine sm_one 11 rfl (by kernel_rfl) rfl ?_
    refine sw_set F M 2 ⟨rfl, rfl, rfl⟩ rfl rfl rfl (by kernel_rfl) rfl rfl rfl fun w M => ?_
    simp only [List.set_cons_zero, List.set_cons_succ] at M
    refine sw_end ⟨fun h => absurd h (by decide), ?_⟩
    refine wpAnyM_done (by kernel_rfl) ?_ _
    show Code.wp _ _ _ _ _
    refine sw_reg ?_
    refine sw_move F ⟨rfl, rfl, rfl⟩ rfl rfl fun A F => ?_
    refine sw_call0 (take_m [59] b S6) F M ⟨rfl, rfl, rfl⟩ rfl rfl ?_
    rintro _ S15 A w ⟨_, h16⟩ F M
    replace kn := kn.step h16
    refine sw_end ?_
    replace M := M.drop 1 rfl
    replace M := M.drop 0 rfl
    try simp only [List.eraseIdx_cons_zero, List.eraseIdx_cons_succ] at M
    repeat (first | refine then_norm ?_ | refine block_norm ?_)
    refine sw_endnone F Tryd.results23 ⟨rfl, la13, lc14, (e1 ++ [[Fld.s s8, Fld.i k9]]), a2, c2, e2, a3, c3, e3, S15, M, ?_, ?_⟩
    · (try simp only [List.length_append, List.length_singleton]) <;> omega
    · first | exact kn.fin | (rw [pvRows_app]; exact kn.fin)
  · skip
    replace kn := kn.ifT_false hc1
    rw [hc1] at F
    refine sw_seq ?_
    refine sw_reg ?_
    refine sw_move F ⟨rfl, rfl, rfl⟩ rfl rfl fun A F => ?_
    refine sw_call0 (is_m [109, 97, 112] b S) F M ⟨rfl, rfl, rfl⟩ rfl rfl ?_
    rintro _ _ A w ⟨_, rfl, rfl⟩ F M
    replace kn := kn.step (Rv.of (rel_is [109, 97, 112] S))
    refine sw_asg F ⟨rfl, rfl, rfl⟩ rfl rfl fun A F => ?_
    refine sw_end ?_
    show Code.wp _ _ _ _ _
    refine sw_cond F rfl (fun hc17 => ?_) (fun hc17 => ?_)
    · skip
      replace kn := kn.ifT_true hc17
      rw [hc17] at F
      refine sw_seq ?_
      refine wp_region_held (S := fun w' => w'.cell? ⟨cx, 1, none⟩ = some (.slice a1 e1.length c1) ∧ w'.cell? ⟨cx, 2, none⟩ = some (.slice a2 e2.length c2)) (by kernel_rfl) ?_
      show wpAnyH _ _ _ _ _ _ _ _ w.drew
      replace M := M.drew
      have hS : w.drew.cell? ⟨cx, 1, none⟩ = some (.slice a1 e1.length c1) ∧ w.drew.cell? ⟨cx, 2, none⟩ = some (.slice a2 e2.length c2) := ⟨M.cell 0 rfl rfl, M.cell 0 rfl rfl⟩
      refine sd_move F 0 rfl ⟨rfl, rfl, rfl⟩ rfl (by kernel_rfl) (by kernel_rfl) (by kernel_rfl) (fun _ _ _ h => h) rfl hS fun A F => ?_
      refine sd_move F 1 rfl ⟨rfl, rfl, rfl⟩ rfl (by kernel_rfl) (by kernel_rfl) (by kernel_rfl) (fun _ _ _ h => h) rfl hS fun A F => ?_
      refine sd_nil F 2 rfl ⟨rfl, rfl, rfl⟩ rfl (by kernel_rfl) (by kernel_rfl) (by kernel_rfl) (fun _ _ _ h => h) rfl hS fun A F => ?_
      refine sd_fld F 3 1 rfl ⟨rfl, rfl, rfl⟩ rfl (by kernel_rfl) rfl (by kernel_rfl) (by kernel_rfl) (by kernel_rfl) (fun _ _ _ h => h) rfl hS fun A F => ?_
      refine sd_cell F 4 rfl ⟨rfl, rfl, rfl⟩ rfl (by kernel_rfl) (fun _ h => h.1) (by kernel_rfl) (by kernel_rfl) (by kernel_rfl) (fun _ _ _ h => h) rfl hS fun A F => ?_
      refine sd_len F 5 rfl ⟨rfl, rfl, rfl⟩ rfl (Tryd.underlying22) (by kernel_rfl) (by kernel_rfl) (by kernel_rfl) (fun _ _ _ h => h) rfl hS fun A F => ?_
      refine sd_move F 6 rfl ⟨rfl, rfl, rfl⟩ rfl (by kernel_rfl) (by kernel_rfl) (by kernel_rfl) (fun _ _ _ h => h) rfl hS fun A F => ?_
      refine sd_nil F 7 rfl ⟨rfl, rfl, rfl⟩ rfl (by kernel_rfl) (by kernel_rfl) (by kernel_rfl) (fun _ _ _ h => h) rfl hS fun A F => ?_
      refine sd_fld F 8 2 rfl ⟨rfl, rfl, rfl⟩ rfl (by kernel_rfl) rfl (by kernel_rfl) (by kernel_rfl) (by kernel_rfl) (fun _ _ _ h => h) rfl hS fun A F => ?_
      refine sd_cell F 9 rfl ⟨rfl, rfl, rfl⟩ rfl (by kernel_rfl) (fun _ h => h.2) (by kernel_rfl) (by kernel_rfl) (by kernel_rfl) (fun _ _ _ h => h) rfl hS fun A F => ?_
      refine sd_len F 10 rfl ⟨rfl, rfl, rfl⟩ rfl (Tryd.underlying23) (by kernel_rfl) (by kernel_rfl) (by kernel_rfl) (fun _ _ _ h => h) rfl hS fun A F => ?_
      refine sd_add F 11 rfl ⟨rfl, rfl, rfl⟩ rfl rfl (by omega) (by kernel_rfl) (by kernel_rfl) (by kernel_rfl) (fun _ _ _ h => h) rfl hS fun A F => ?_
      clear hS
      refine sd_one 12 rfl (by kernel_rfl) rfl ?_
      refine sw_call0 (room_m ((e1.length : Int) + (e2.length : Int)) 32 b S) F M ⟨rfl, rfl, rfl⟩ rfl rfl ?_
      rintro _ S18 A w ⟨_, h19⟩ F M
      replace kn := kn.step h19
      have hS : w.cell? ⟨cx, 1, none⟩ = some (.slice a1 e1.length c1) ∧ w.cell? ⟨cx, 2, none⟩ = some (.slice a2 e2.length c2) := ⟨M.cell 0 rfl rfl, M.cell 0 rfl rfl⟩
      refine sw_end ⟨hS, ?_⟩
      clear hS
      refine wpAnyH_done (by kernel_rfl) ?_ _
      show Code.wp _ _ _ _ _
      refine wp_region_late (fun w' => w'.cell? ⟨cx, 2, none⟩ = some (.slice a2 e2.length c2)) 11 (by kernel_rfl) ?_
      show wpAnyM _ _ _ _ _ _ _ _ _ w.drew
      replace M := M.drew
      have hS : w.drew.cell? ⟨cx, 2, none⟩ = some (.slice a2 e2.length c2) := M.cell 0 rfl rfl
      refine sm_move F 0 rfl ⟨rfl, rfl, rfl⟩ rfl (by kernel_rfl) (by kernel_rfl) (by kernel_rfl) rfl (fun _ _ _ h => h) rfl hS fun A F => ?_
      refine sm_move F 1 rfl ⟨rfl, rfl, rfl⟩ rfl (by kernel_rfl) (by kernel_rfl) (by kernel_rfl) rfl (fun _ _ _ h => h) rfl hS fun A F => ?_
      refine sm_nil F 2 rfl ⟨rfl, rfl, rfl⟩ rfl (by kernel_rfl) (by kernel_rfl) (by kernel_rfl) rfl (fun _ _ _ h => h) rfl hS fun A F => ?_
      refine sm_fld F 3 2 rfl ⟨rfl, rfl, rfl⟩ rfl (by kernel_rfl) rfl (by kernel_rfl) (by kernel_rfl) (by kernel_rfl) rfl (fun _ _ _ h => h) rfl hS fun A F => ?_
      refine sm_cell F 4 rfl ⟨rfl, rfl, rfl⟩ rfl (by kernel_rfl) (fun _ h => h) (by kernel_rfl) (by kernel_rfl) (by kernel_rfl) (by kernel_rfl) rfl (fun _ _ _ h => h) rfl hS fun A F => ?_
      refine sm_move F 5 rfl ⟨rfl, rfl, rfl⟩ rfl (by kernel_rfl) (by kernel_rfl) (by kernel_rfl) rfl (fun _ _ _ h => h) rfl hS fun A F => ?_
      clear hS
      refine sm_one 6 rfl (by kernel_rfl) rfl ?_
      refine sw_call (table_m b S18) F M ⟨rfl, rfl, rfl⟩ rfl rfl ?_
      rintro _ _ S20 A w ⟨s22, k22, j22, rfl, rfl, hk22, hj22, h21⟩ F M
      replace kn := kn.step h21
      have hS : w.cell? ⟨cx, 2, none⟩ = some (.slice a2 e2.length c2) := M.cell 1 rfl rfl
      refine sw_end ⟨fun _ => hS, ?_⟩
      clear hS
      refine sm_one 7 rfl (by kernel_rfl) rfl ?_
      refine sw_mkrow (ety := 48) (sz := 3) (z := .agg #[.string ⟨#[]⟩, .int .i64 0, .int .i64 0]) F M _ [[.s s22, .i k22, .i j22]] ⟨rfl, rfl, rfl⟩ rfl (by kernel_rfl) (by kernel_rfl) rfl (by kernel_rfl) rfl ?_ ?_ rfl fun x23 A w F M => ?_
      · intro g hg
        simp only [List.mem_cons, List.not_mem_nil, or_false] at hg
        rcases hg with rfl
        · exact ⟨rfl, (M.mem.vals 0 rfl).1⟩
      · intro i f b hf hm g hg
        simp only [List.mem_cons, List.not_mem_nil, or_false] at hg
        rcases hg with rfl
        · exact (M.mem.vals 0 rfl).2 i f b hf hm
      have hS : w.cell? ⟨cx, 2, none⟩ = some (.slice a2 e2.length c2) := M.cell 2 rfl rfl
      refine sw_end ⟨fun _ => hS, ?_⟩
      clear hS
      refine sm_one 8 rfl (by kernel_rfl) rfl ?_
      refine sw_appRow (z := .agg #[.string ⟨#[]⟩, .int .i64 0, .int .i64 0]) F M 4 0 ⟨rfl, rfl, rfl⟩ rfl rfl rfl (by decide) rfl rfl rfl (by kernel_rfl) (by kernel_rfl) rfl rfl (by (try simp only [List.length_append, List.length_cons, List.length_nil]); omega) rfl fun la25 lc26 A w F M => ?_
      simp only [List.set_cons_zero, List.set_cons_succ] at M
      have hS : w.cell? ⟨cx, 2, none⟩ = some (.slice a2 e2.length c2) := M.cell 2 rfl rfl
      refine sw_end ⟨fun _ => hS, ?_⟩
      refine sm_nil F 9 rfl ⟨rfl, rfl, rfl⟩ rfl (by kernel_rfl) (by kernel_rfl) (by kernel_rfl) rfl (fun _ _ _ h => h) rfl hS fun A F => ?_
      refine sm_fld F 10 2 rfl ⟨rfl, rfl, rfl⟩ rfl (by kernel_rfl) rfl (by kernel_rfl) (by kernel_rfl) (by kernel_rfl) rfl (fun _ _ _ h => h) rfl hS fun A F => ?_
      clear hS
      refine sm_one 11 rfl (by kernel_rfl) rfl ?_
      refine sw_set F M 2 ⟨rfl, rfl, rfl⟩ rfl rfl rfl (by kernel_rfl) rfl rfl rfl fun w M => ?_
      simp only [List.set_cons_zero, List.set_cons_succ] at M
      refine sw_end ⟨fun h => absurd h (by decide), ?_⟩
      refine wpAnyM_done (by kernel_rfl) ?_ _
      replace M := M.drop 1 rfl
      replace M := M.drop 0 rfl
      try simp only [List.eraseIdx_cons_zero, List.eraseIdx_cons_succ] at M
      repeat (first | refine then_norm ?_ | refine block_norm ?_)
      refine sw_endnone F Tryd.results23 ⟨rfl, a1, c1, e1, la25, lc26, (e2 ++ [[Fld.s s22, Fld.i k22, Fld.i j22]]), a3, c3, e3, S20, M, ?_, ?_⟩
      · (try simp only [List.length_append, List.length_singleton]) <;> omega
      · first | exact kn.fin | (rw [pvRows_app]; exact kn.fin)
    · skip
      replace kn := kn.ifT_false hc17
      rw [hc17] at F
      refine sw_seq ?_
      refine sw_seq ?_
      refine sw_reg ?_
      refine sw_move F ⟨rfl, rfl, rfl⟩ rfl rfl fun A F => ?_
      refine sw_call0 (is_m [102, 110] b S) F M ⟨rfl, rfl, rfl⟩ rfl rfl ?_
      rintro _ _ A w ⟨_, rfl, rfl⟩ F M
      replace kn := kn.step (Rv.of (rel_is [102, 110] S))
      refine sw_asg F ⟨rfl, rfl, rfl⟩ rfl rfl fun A F => ?_
      refine sw_end ?_
      show Code.wp _ _ _ _ _
      refine sw_cond F rfl (fun hc27 => ?_) (fun hc27 => ?_)
      · skip
        replace kn := kn.ifT_true hc27
        rw [hc27] at F
        refine wp_skip ?_
        show Code.wp _ _ _ _ _
        refine sw_true F rfl ?_
        refine sw_seq ?_
        refine sw_reg ?_
        refine sw_move F ⟨rfl, rfl, rfl⟩ rfl rfl fun A F => ?_
        refine sw_move F ⟨rfl, rfl, rfl⟩ rfl rfl fun A F => ?_
        refine sw_nil F ⟨rfl, rfl, rfl⟩ rfl rfl fun A F => ?_
        refine sw_fld F 3 ⟨rfl, rfl, rfl⟩ rfl (by kernel_rfl) rfl rfl fun A F => ?_
        refine sw_cell F M 0 ⟨rfl, rfl, rfl⟩ rfl rfl rfl (by kernel_rfl) rfl fun A F => ?_
        refine sw_len F ⟨rfl, rfl, rfl⟩ rfl (Tryd.underlying24) rfl fun A F => ?_
        refine sw_call0 (room_m (e3.length : Int) 32 b S) F M ⟨rfl, rfl, rfl⟩ rfl rfl ?_
        rintro _ S28 A w ⟨_, h29⟩ F M
        replace kn := kn.step h29
        refine sw_end ?_
        show Code.wp _ _ _ _ _
        refine wp_region_late (fun w' => w'.cell? ⟨cx, 3, none⟩ = some (.slice a3 e3.length c3)) 11 (by kernel_rfl) ?_
        show wpAnyM _ _ _ _ _ _ _ _ _ w.drew
        replace M := M.drew
        have hS : w.drew.cell? ⟨cx, 3, none⟩ = some (.slice a3 e3.length c3) := M.cell 0 rfl rfl
        refine sm_move F 0 rfl ⟨rfl, rfl, rfl⟩ rfl (by kernel_rfl) (by kernel_rfl) (by kernel_rfl) rfl (fun _ _ _ h => h) rfl hS fun A F => ?_
        refine sm_move F 1 rfl ⟨rfl, rfl, rfl⟩ rfl (by kernel_rfl) (by kernel_rfl) (by kernel_rfl) rfl (fun _ _ _ h => h) rfl hS fun A F => ?_
        refine sm_nil F 2 rfl ⟨rfl, rfl, rfl⟩ rfl (by kernel_rfl) (by kernel_rfl) (by kernel_rfl) rfl (fun _ _ _ h => h) rfl hS fun A F => ?_
        refine sm_fld F 3 3 rfl ⟨rfl, rfl, rfl⟩ rfl (by kernel_rfl) rfl (by kernel_rfl) (by kernel_rfl) (by kernel_rfl) rfl (fun _ _ _ h => h) rfl hS fun A F => ?_
        refine sm_cell F 4 rfl ⟨rfl, rfl, rfl⟩ rfl (by kernel_rfl) (fun _ h => h) (by kernel_rfl) (by kernel_rfl) (by kernel_rfl) (by kernel_rfl) rfl (fun _ _ _ h => h) rfl hS fun A F => ?_
        refine sm_move F 5 rfl ⟨rfl, rfl, rfl⟩ rfl (by kernel_rfl) (by kernel_rfl) (by kernel_rfl) rfl (fun _ _ _ h => h) rfl hS fun A F => ?_
        clear hS
        refine sm_one 6 rfl (by kernel_rfl) rfl ?_
        refine sw_call (fn_m b S28) F M ⟨rfl, rfl, rfl⟩ rfl rfl ?_
        rintro _ _ S30 A w ⟨s32, o32, pa32, pc32, ps32, k32, ba32, bc32, bs32, rfl, rfl, h31⟩ F M
        replace kn := kn.step h31
        have hS : w.cell? ⟨cx, 3, none⟩ = some (.slice a3 e3.length c3) := M.cell 1 rfl rfl
        refine sw_end ⟨fun _ => hS, ?_⟩
        clear hS
        refine sm_one 7 rfl (by kernel_rfl) rfl ?_
        refine sw_mkrow (ety := 51) (sz := 5) (z := .agg #[.string ⟨#[]⟩, .bool false, .slice none 0 0, .int .i64 0, .slice none 0 0]) F M _ [fnF s32 o32 pa32 pc32 ps32 k32 ba32 bc32 bs32] ⟨rfl, rfl, rfl⟩ rfl (by kernel_rfl) (by kernel_rfl) rfl (by kernel_rfl) rfl ?_ ?_ rfl fun x33 A w F M => ?_
        · intro g hg
          simp only [List.mem_cons, List.not_mem_nil, or_false] at hg
          rcases hg with rfl
          · exact ⟨rfl, (M.mem.vals 0 rfl).1⟩
        · intro i f b hf hm g hg
          simp only [List.mem_cons, List.not_mem_nil, or_false] at hg
          rcases hg with rfl
          · exact (M.mem.vals 0 rfl).2 i f b hf hm
        have hS : w.cell? ⟨cx, 3, none⟩ = some (.slice a3 e3.length c3) := M.cell 2 rfl rfl
        refine sw_end ⟨fun _ => hS, ?_⟩
        clear hS
        refine sm_one 8 rfl (by kernel_rfl) rfl ?_
        refine sw_appRow (z := .agg #[.string ⟨#[]⟩, .bool false, .slice none 0 0, .int .i64 0, .slice none 0 0]) F M 5 0 ⟨rfl, rfl, rfl⟩ rfl rfl rfl (by decide) rfl rfl rfl (by kernel_rfl) (by kernel_rfl) rfl rfl (by (try simp only [List.length_append, List.length_cons, List.length_nil]); omega) rfl fun la35 lc36 A w F M => ?_
        simp only [List.set_cons_zero, List.set_cons_succ] at M
        have hS : w.cell? ⟨cx, 3, none⟩ = some (.slice a3 e3.length c3) := M.cell 2 rfl rfl
        refine sw_end ⟨fun _ => hS, ?_⟩
        refine sm_nil F 9 rfl ⟨rfl, rfl, rfl⟩ rfl (by kernel_rfl) (by kernel_rfl) (by kernel_rfl) rfl (fun _ _ _ h => h) rfl hS fun A F => ?_
        refine sm_fld F 10 3 rfl ⟨rfl, rfl, rfl⟩ rfl (by kernel_rfl) rfl (by kernel_rfl) (by kernel_rfl) (by kernel_rfl) rfl (fun _ _ _ h => h) rfl hS fun A F => ?_
        clear hS
        refine sm_one 11 rfl (by kernel_rfl) rfl ?_
        refine sw_set F M 2 ⟨rfl, rfl, rfl⟩ rfl rfl rfl (by kernel_rfl) rfl rfl rfl fun w M => ?_
        simp only [List.set_cons_zero, List.set_cons_succ] at M
        refine sw_end ⟨fun h => absurd h (by decide), ?_⟩
        refine wpAnyM_done (by kernel_rfl) ?_ _
        replace M := M.drop 1 rfl
        replace M := M.drop 0 rfl
        try simp only [List.eraseIdx_cons_zero, List.eraseIdx_cons_succ] at M
        repeat (first | refine then_norm ?_ | refine block_norm ?_)
        refine sw_endnone F Tryd.results23 ⟨rfl, a1, c1, e1, a2, c2, e2, la35, lc36, (e3 ++ [fnF s32 o32 pa32 pc32 ps32 k32 ba32 bc32 bs32]), S30, M, ?_, ?_⟩
        · (try simp only [List.length_append, List.length_singleton]) <;> omega
        · first | exact kn.fin | (rw [pvRows_app]; exact kn.fin)
      · skip
        replace kn := kn.ifT_false hc27
        rw [hc27] at F
        refine sw_reg ?_
        refine sw_move F ⟨rfl, rfl, rfl⟩ rfl rfl fun A F => ?_
        refine sw_call0 (is_m [111, 112, 101, 110] b S) F M ⟨rfl, rfl, rfl⟩ rfl rfl ?_
        rintro _ _ A w ⟨_, rfl, rfl⟩ F M
        replace kn := kn.step (Rv.of (rel_is [111, 112, 101, 110] S))
        refine sw_asg F ⟨rfl, rfl, rfl⟩ rfl rfl fun A F => ?_
        refine sw_end ?_
        show Code.wp _ _ _ _ _
        refine sw_cond F rfl (fun hc37 => ?_) (fun hc37 => ?_)
        · skip
          replace kn := kn.ifT_true hc37
          rw [hc37] at F
          refine sw_seq ?_
          refine sw_reg ?_
          refine sw_move F ⟨rfl, rfl, rfl⟩ rfl rfl fun A F => ?_
          refine sw_move F ⟨rfl, rfl, rfl⟩ rfl rfl fun A F => ?_
          refine sw_nil F ⟨rfl, rfl, rfl⟩ rfl rfl fun A F => ?_
          refine sw_fld F 3 ⟨rfl, rfl, rfl⟩ rfl (by kernel_rfl) rfl rfl fun A F => ?_
          refine sw_cell F M 0 ⟨rfl, rfl, rfl⟩ rfl rfl rfl (by kernel_rfl) rfl fun A F => ?_
          refine sw_len F ⟨rfl, rfl, rfl⟩ rfl (Tryd.underlying24) rfl fun A F => ?_
          refine sw_call0 (room_m (e3.length : Int) 32 b S) F M ⟨rfl, rfl, rfl⟩ rfl rfl ?_
          rintro _ S38 A w ⟨_, h39⟩ F M
          replace kn := kn.step h39
          refine sw_end ?_
          show Code.wp _ _ _ _ _
          refine wp_region_late (fun w' => w'.cell? ⟨cx, 3, none⟩ = some (.slice a3 e3.length c3)) 11 (by kernel_rfl) ?_
          show wpAnyM _ _ _ _ _ _ _ _ _ w.drew
          replace M := M.drew
          have hS : w.drew.cell? ⟨cx, 3, none⟩ = some (.slice a3 e3.length c3) := M.cell 0 rfl rfl
          refine sm_move F 0 rfl ⟨rfl, rfl, rfl⟩ rfl (by kernel_rfl) (by kernel_rfl) (by kernel_rfl) rfl (fun _ _ _ h => h) rfl hS fun A F => ?_
          refine sm_move F 1 rfl ⟨rfl, rfl, rfl⟩ rfl (by kernel_rfl) (by kernel_rfl) (by kernel_rfl) rfl (fun _ _ _ h => h) rfl hS fun A F => ?_
          refine sm_nil F 2 rfl ⟨rfl, rfl, rfl⟩ rfl (by kernel_rfl) (by kernel_rfl) (by kernel_rfl) rfl (fun _ _ _ h => h) rfl hS fun A F => ?_
          refine sm_fld F 3 3 rfl ⟨rfl, rfl, rfl⟩ rfl (by kernel_rfl) rfl (by kernel_rfl) (by kernel_rfl) (by kernel_rfl) rfl (fun _ _ _ h => h) rfl hS fun A F => ?_
          refine sm_cell F 4 rfl ⟨rfl, rfl, rfl⟩ rfl (by kernel_rfl) (fun _ h => h) (by kernel_rfl) (by kernel_rfl) (by kernel_rfl) (by kernel_rfl) rfl (fun _ _ _ h => h) rfl hS fun A F => ?_
          refine sm_move F 5 rfl ⟨rfl, rfl, rfl⟩ rfl (by kernel_rfl) (by kernel_rfl) (by kernel_rfl) rfl (fun _ _ _ h => h) rfl hS fun A F => ?_
          clear hS
          refine sm_one 6 rfl (by kernel_rfl) rfl ?_
          refine sw_call (fn_m b S38) F M ⟨rfl, rfl, rfl⟩ rfl rfl ?_
          rintro _ _ S40 A w ⟨s42, o42, pa42, pc42, ps42, k42, ba42, bc42, bs42, rfl, rfl, h41⟩ F M
          replace kn := kn.step h41
          have hS : w.cell? ⟨cx, 3, none⟩ = some (.slice a3 e3.length c3) := M.cell 1 rfl rfl
          refine sw_end ⟨fun _ => hS, ?_⟩
          clear hS
          refine sm_one 7 rfl (by kernel_rfl) rfl ?_
          refine sw_mkrow (ety := 51) (sz := 5) (z := .agg #[.string ⟨#[]⟩, .bool false, .slice none 0 0, .int .i64 0, .slice none 0 0]) F M _ [fnF s42 o42 pa42 pc42 ps42 k42 ba42 bc42 bs42] ⟨rfl, rfl, rfl⟩ rfl (by kernel_rfl) (by kernel_rfl) rfl (by kernel_rfl) rfl ?_ ?_ rfl fun x43 A w F M => ?_
          · intro g hg
            simp only [List.mem_cons, List.not_mem_nil, or_false] at hg
            rcases hg with rfl
            · exact ⟨rfl, (M.mem.vals 0 rfl).1⟩
          · intro i f b hf hm g hg
            simp only [List.mem_cons, List.not_mem_nil, or_false] at hg
            rcases hg with rfl
            · exact (M.mem.vals 0 rfl).2 i f b hf hm
          have hS : w.cell? ⟨cx, 3, none⟩ = some (.slice a3 e3.length c3) := M.cell 2 rfl rfl
          refine sw_end ⟨fun _ => hS, ?_⟩
          clear hS
          refine sm_one 8 rfl (by kernel_rfl) rfl ?_
          refine sw_appRow (z := .agg #[.string ⟨#[]⟩, .bool false, .slice none 0 0, .int .i64 0, .slice none 0 0]) F M 5 0 ⟨rfl, rfl, rfl⟩ rfl rfl rfl (by decide) rfl rfl rfl (by kernel_rfl) (by kernel_rfl) rfl rfl (by (try simp only [List.length_append, List.length_cons, List.length_nil]); omega) rfl fun la45 lc46 A w F M => ?_
          simp only [List.set_cons_zero, List.set_cons_succ] at M
          have hS : w.cell? ⟨cx, 3, none⟩ = some (.slice a3 e3.length c3) := M.cell 2 rfl rfl
          refine sw_end ⟨fun _ => hS, ?_⟩
          refine sm_nil F 9 rfl ⟨rfl, rfl, rfl⟩ rfl (by kernel_rfl) (by kernel_rfl) (by kernel_rfl) rfl (fun _ _ _ h => h) rfl hS fun A F => ?_
          refine sm_fld F 10 3 rfl ⟨rfl, rfl, rfl⟩ rfl (by kernel_rfl) rfl (by kernel_rfl) (by kernel_rfl) (by kernel_rfl) rfl (fun _ _ _ h => h) rfl hS fun A F => ?_
          clear hS
          refine sm_one 11 rfl (by kernel_rfl) rfl ?_
          refine sw_set F M 2 ⟨rfl, rfl, rfl⟩ rfl rfl rfl (by kernel_rfl) rfl rfl rfl fun w M => ?_
          simp only [List.set_cons_zero, List.set_cons_succ] at M
          refine sw_end ⟨fun h => absurd h (by decide), ?_⟩
          refine wpAnyM_done (by kernel_rfl) ?_ _
          replace M := M.drop 1 rfl
          replace M := M.drop 0 rfl
          try simp only [List.eraseIdx_cons_zero, List.eraseIdx_cons_succ] at M
          repeat (first | refine then_norm ?_ | refine block_norm ?_)
          refine sw_endnone F Tryd.results23 ⟨rfl, a1, c1, e1, a2, c2, e2, la45, lc46, (e3 ++ [fnF s42 o42 pa42 pc42 ps42 k42 ba42 bc42 bs42]), S40, M, ?_, ?_⟩
          · (try simp only [List.length_append, List.length_singleton]) <;> omega
          · first | exact kn.fin | (rw [pvRows_app]; exact kn.fin)
        · skip
          replace kn := kn.ifT_false hc37
          rw [hc37] at F
          refine sw_reg ?_
          refine sw_move F ⟨rfl, rfl, rfl⟩ rfl rfl fun A F => ?_
          refine sw_call0 (wrong_m (b := b) (S := S)) F M ⟨rfl, rfl, rfl⟩ rfl rfl ?_
          rintro _ S47 A w ⟨_, h48⟩ F M
          refine sw_end ?_
          try simp only [List.eraseIdx_cons_zero, List.eraseIdx_cons_succ] at M
          repeat (first | refine then_norm ?_ | refine block_norm ?_)
          refine sw_endnone F Tryd.results23 ⟨rfl, a1, c1, e1, a2, c2, e2, a3, c3, e3, S47, M, ?_, ?_⟩
          · (try simp only [List.length_append, List.length_singleton]) <;> omega
          · first | exact kn.last (wrong_any h48) | (rw [pvRows_app]; exact kn.last (wrong_any h48))
theorem itemsM_succ (c : CT) (n : Nat) : itemsM (n + 1) c = bnd (isT [125]) fun e => ifT e (pur c) (bnd (itemM n c) fun c => itemsM n c) := by rw [itemsM]
theorem items_end {F : Nat → PM CT} {S1 Sv : ES} {c : CT} (kl : Kn F S1 (fun n => itemsM n c) Sv) (hg : going [125] Sv = false) : Rv F S1 c Sv := by
  cases Sv with
  | error e => exact kl.err c
  | ok σ => exact (((kl.succ.to (itemsM_succ _)).step (Rv.of (rel_is [125] (.ok σ)))).ifT_true (by simpa [going, stands] using hg)).fin
def ctF (s : Key) (a1 : Option Addr) (c1 : Nat) (e1 : List (List Fld)) (a2 : Option Addr) (c2 : Nat) (e2 : List (List Fld)) (a3 : Option Addr) (c3 : Nat) (e3 : List (List Fld)) : List Fld := [.s s, .l a1 c1 e1, .l a2 c2 e2, .l a3 c3 e3]
theorem Mm.perm {σ : Type} {X : σ → World → Prop} {T : Nat → Prop} {w0 w : World} {E E' : List Ent} {s : σ} (M : Mm X T w0 E s w) (is : List Nat) (h : is.map (fun i => E[i]?) = E'.map Option.some) (hn : is.Nodup) : Mm X T w0 E' s w := by
  have key : ∀ (j : Nat) (f : Ent), E'[j]? = some f → ∃ i, is[j]? = some i ∧ E[i]? = some f := fun j f hj => by
    have h1 : (E'.map Option.some)[j]? = some (some f) := by rw [List.getElem?_map, hj]; rfl
    rw [← h, List.getElem?_map] at h1
    cases hi : is[j]? with
    | none => rw [hi] at h1; cases h1
    | some i => rw [hi] at h1; exact ⟨i, rfl, by injection h1⟩
  refine ⟨M.lt, M.stb, M.but, ⟨M.mem.le, fun j f hj => ?_, fun j k f g b hjk hj hk hm => ?_⟩, M.st⟩
  · obtain ⟨i, _, hi⟩ := key j f hj
    exact M.mem.at_ i f hi
  · obtain ⟨i, hi1, hi2⟩ := key j f hj
    obtain ⟨l, hl1, hl2⟩ := key k g hk
    refine M.mem.sep i l f g b (fun e => hjk ?_) hi2 hl2 hm
    subst e
    obtain ⟨q1, q2⟩ := List.getElem?_eq_some_iff.1 hi1
    obtain ⟨q3, q4⟩ := List.getElem?_eq_some_iff.1 hl1
    by_cases hlt : j < k
    · exact absurd (q2.trans q4.symm) (List.pairwise_iff_getElem.1 hn j k q1 q3 hlt)
    · by_cases hgt : k < j
      · exact absurd (q4.trans q2.symm) (List.pairwise_iff_getElem.1 hn k j q3 q1 hgt)
      · omega
set_option maxRecDepth 8000 in
set_option maxHeartbeats 3200000 in
theorem contract_m (b : Nat) (S : ES) : Meth Tryd.prog (RdX b) (fun k => k = b) 8 [ptr b] S (fun v fs S' => ∃ nm a1 c1 e1 a2 c2 e2 a3 c3 e3, fs = ctF nm a1 c1 e1 a2 c2 e2 a3 c3 e3 ∧ v = .agg (fs.map Fld.val).toArray ∧ Rv contractM S (pvAll fs) S') := by
  refine ⟨by kernel_rfl, fun wO R _ => ?_⟩
  have M := rd_begin R
  have kn := Kn.here (F := contractM) (S := S)
  refine sw_fn Tryd.func8 rfl 19 Tryd.ntmps8 rfl fun A F => ?_
  refine sw_seq ?_
  refine sw_reg ?_
  refine sw_alloc F M [.string ⟨#[]⟩, .slice none 0 0, .slice none 0 0, .slice none 0 0] ⟨rfl, rfl, rfl⟩ (by kernel_rfl) rfl fun x1 A w F M => ?_
  refine sw_end ?_
  show Code.wp _ _ _ _ _
  refine sw_seq ?_
  refine sw_reg ?_
  refine sw_build F _ [.string ⟨#[]⟩, .slice none 0 0, .slice none 0 0, .slice none 0 0] ⟨rfl, rfl, rfl⟩ rfl (by kernel_rfl) rfl fun A F => ?_
  refine sw_alloc F M [.string ⟨#[]⟩, .slice none 0 0, .slice none 0 0, .slice none 0 0] ⟨rfl, rfl, rfl⟩ (by kernel_rfl) rfl fun x2 A w F M => ?_
  refine sw_setAll F M 0 ⟨rfl, rfl, rfl⟩ rfl rfl rfl (by kernel_rfl) rfl rfl fun w M => ?_
  simp only [List.set_cons_zero, List.set_cons_succ] at M
  refine sw_end ?_
  show Code.wp _ _ _ _ _
  refine sw_seq ?_
  refine sw_reg ?_
  refine sw_move F ⟨rfl, rfl, rfl⟩ rfl rfl fun A F => ?_
  refine sw_call0 (take_m [99, 111, 110, 116, 114, 97, 99, 116] b S) F M ⟨rfl, rfl, rfl⟩ rfl rfl ?_
  rintro _ S3 A w ⟨_, h4⟩ F M
  replace kn := kn.step h4
  refine sw_end ?_
  show Code.wp _ _ _ _ _
  refine sw_seq ?_
  refine sw_reg ?_
  refine sw_move F ⟨rfl, rfl, rfl⟩ rfl rfl fun A F => ?_
  refine sw_call0 (name_m b S3) F M ⟨rfl, rfl, rfl⟩ rfl rfl ?_
  rintro _ S5 A w ⟨_, s7, rfl, h6⟩ F M
  replace kn := kn.step h6
  refine sw_fld F 0 ⟨rfl, rfl, rfl⟩ rfl (by kernel_rfl) rfl rfl fun A F => ?_
  refine sw_set F M 0 ⟨rfl, rfl, rfl⟩ rfl rfl rfl (by kernel_rfl) rfl rfl rfl fun w M => ?_
  simp only [List.set_cons_zero, List.set_cons_succ] at M
  refine sw_end ?_
  show Code.wp _ _ _ _ _
  refine sw_seq ?_
  refine sw_reg ?_
  refine sw_move F ⟨rfl, rfl, rfl⟩ rfl rfl fun A F => ?_
  refine sw_call0 (take_m [123] b S5) F M ⟨rfl, rfl, rfl⟩ rfl rfl ?_
  rintro _ S8 A w ⟨_, h9⟩ F M
  replace kn := kn.step h9
  refine sw_end ?_
  show Code.wp _ _ _ _ _
  refine sw_seq ?_
  refine wp_block ?_
  replace M := M.nilrow 51 5
  replace M := M.nilrow 48 3
  replace M := M.nilrow 65 2
  replace M := M.perm (E' := [.box x2 [.string (str s7), .slice none 0 0, .slice none 0 0, .slice none 0 0] 26, .row (.slice none 0 0) 65 2 [], .row (.slice none 0 0) 48 3 [], .row (.slice none 0 0) 51 5 [], .box x1 [.string ⟨#[]⟩, .slice none 0 0, .slice none 0 0, .slice none 0 0] 26]) [3, 0, 1, 2, 4] rfl (by decide)
  have hmost := M.st.most
  refine wp_loop (fun A wv => ∃ a1 c1 e1 a2 c2 e2 a3 c3 e3 Sv, Fm 19 [(3, ptr x2), (2, ptr x1), (0, ptr b)] A ∧ Mm (RdX b) (fun k => k = b) wO (.box x2 [.string (str s7), .slice a1 e1.length c1, .slice a2 e2.length c2, .slice a3 e3.length c3] 26 :: .row (.slice a1 e1.length c1) 65 2 e1 :: .row (.slice a2 e2.length c2) 48 3 e2 :: .row (.slice a3 e3.length c3) 51 5 e3 :: [.box x1 [.string ⟨#[]⟩, .slice none 0 0, .slice none 0 0, .slice none 0 0] 26]) Sv wv ∧ Kn (fun n => itemsM n ([], [], [])) S8 (fun n => itemsM n (pvRows e1, pvRows e2, pvRows e3)) Sv ∧ e1.length + e2.length + e3.length + lf Sv ≤ 32786) (fun _ wv => wl wv b) ?_ ?_
  · exact ⟨none, 0, [], none, 0, [], none, 0, [], S8, F.keep [3, 2, 0] rfl, M, Kn.here, by have := lf_le S8; simp only [List.length_nil]; omega⟩
  rintro A w ⟨a1, c1, e1, a2, c2, e2, a3, c3, e3, Sv, F, M, kl, hlen⟩
  obtain ⟨nm, Hnm⟩ : ∃ nm, nm = s7 := ⟨_, rfl⟩
  rw [← Hnm] at M
  have hwl := M.st.wl
  refine sw_seq ?_
  refine sw_seq ?_
  refine sw_reg ?_
  refine sw_move F ⟨rfl, rfl, rfl⟩ rfl rfl fun A F => ?_
  refine sw_call0 (ahead_m [125] b Sv) F M ⟨rfl, rfl, rfl⟩ rfl rfl ?_
  rintro _ _ A w ⟨_, rfl, rfl⟩ F M
  refine sw_end ?_
  show Code.wp _ _ _ _ _
  refine sw_cond F rfl (fun hc => ?_) (fun hc => ?_)
  · skip
    obtain ⟨hok, hst⟩ := going_ok hc
    replace kl := ((kl.succ.to (itemsM_succ _)).step (Rv.of (rel_is [125] Sv))).ifT_false hst
    refine wp_skip ?_
    show Code.wp _ _ _ _ _
    refine wp_block ?_
    refine sw_reg ?_
    refine sw_move F ⟨rfl, rfl, rfl⟩ rfl rfl fun A F => ?_
    refine sw_callR (by kernel_rfl) (item_c b _ nm a1 c1 e1 a2 c2 e2 a3 c3 e3 _ wO w Sv M (by omega)) F ⟨rfl, rfl, rfl⟩ rfl rfl ?_
    rintro e w ⟨rfl, a4, d4, f1, a5, d5, f2, a6, d6, f3, Si, M, hf, hi⟩
    refine ⟨_, rfl, fun A F => ?_⟩
    refine sw_end ?_
    have hlt := lf_takes (F := fun n => itemM n (pvRows e1, pvRows e2, pvRows e3)) hi (item_takes _)
    show _ ∧ _
    rw [Hnm] at M
    refine ⟨⟨_, _, f1, _, _, f2, _, _, f3, Si, F.keep [3, 2, 0] rfl, M, kl.step hi, by omega⟩, ?_⟩
    rw [M.st.wl, hwl]
    omega
  · skip
    replace kn := kn.step (items_end kl hc)
    refine wp_exit ?_
    show Code.wp _ _ _ _ _
    refine sw_seq ?_
    refine sw_reg ?_
    refine sw_move F ⟨rfl, rfl, rfl⟩ rfl rfl fun A F => ?_
    refine sw_call0 (take_m [125] b Sv) F M ⟨rfl, rfl, rfl⟩ rfl rfl ?_
    rintro _ S10 A w ⟨_, h11⟩ F M
    replace kn := kn.step h11
    refine sw_end ?_
    show Code.wp _ _ _ _ _
    refine sw_seq ?_
    refine sw_reg ?_
    refine sw_all F M 0 ⟨rfl, rfl, rfl⟩ rfl rfl (by kernel_rfl) (by kernel_rfl) rfl fun A F => ?_
    refine sw_setAll F M 4 ⟨rfl, rfl, rfl⟩ rfl rfl rfl (by kernel_rfl) rfl rfl fun w M => ?_
    simp only [List.set_cons_zero, List.set_cons_succ] at M
    refine sw_end ?_
    show Code.wp _ _ _ _ _
    refine wp_ret ?_
    repeat (first | refine then_ret ?_ | refine block_ret ?_)
    rw [Hnm] at M F
    exact sw_retbox F M 4 Tryd.results8 rfl rfl (by kernel_rfl) (by kernel_rfl) ⟨_, ctF s7 a1 c1 e1 a2 c2 e2 a3 c3 e3, S10, rfl, M.but, M.st, lie_cons trivial (lie_cons (M.mem.rowlie 1 rfl) (lie_cons (M.mem.rowlie 2 rfl) (lie_cons (M.mem.rowlie 3 rfl) (lie_nil _ _)))), s7, a1, c1, e1, a2, c2, e2, a3, c3, e3, rfl, rfl, kn.fin⟩
end Go.Proofs.YtgpjlocgkdlnlaaDoor
