/- ScriptParses: whatever the text, both readers give the same contract, or the same first fault. Conditions: five tables of package script start as the program's text lays them (the card ties them). -/
import Derived.Test.YtgpjlocgkdlnlaaDoorRows
import Derived.Test.YtgpjlocgkdlnlaaDoorCards
import Derived.Test.YtgpjlocgkdlnlaaDoorTie
import Derived.Test.YtgpjlocgkdlnlaaDoorM52
import Derived.ProofKit
import Derived.OpenShut
import Derived.ChangeOld
import Derived.ChangeArms
import Derived.ChangeMaps
import Derived.Lay
import Derived.Stop.Joined
import Derived.SevenTiedAt
namespace Go.Proofs.YtgpjlocgkdlnlaaDoor.scriptParses
open Go.ChangeShapes Go.WideShapes Go.ChangeAt Go.RowKit
open Go.ChangeMaps (open_string shut_string)
set_option linter.unusedVariables false
set_option linter.unusedSimpArgs false

theorem own : ownKnob Tryd.prog.godebug = none := by kernel_rfl
theorem laidOut : laidOutB Tryd.prog = true := by kernel_rfl
theorem Tryd.cellsG : Tryd.prog.cellsOf 9 = 1 := by kernel_rfl
theorem Tryd.cellsB : Tryd.prog.cellsOf 4 = 1 := by kernel_rfl
theorem Tryd.cellsI : Tryd.prog.cellsOf 3 = 1 := by kernel_rfl
theorem Tryd.cellsF : Tryd.prog.cellsOf 102 = 2 := by kernel_rfl
def laid1 : List (String × DataW Unit) := [("assize/script.exprFields", Rows.laid_assize_script_exprFields), ("assize/script.kindWords", Rows.laid_assize_script_kindWords), ("assize/script.stepWords", Rows.laid_assize_script_stepWords), ("assize/script.exprWords", Rows.laid_assize_script_exprWords), ("assize/script.signs", Rows.laid_assize_script_signs)]
theorem str_eta (s : ByteArray) : s = str s.data.toList := by
  cases s; simp [str]
/-- A table of words, as it is laid. -/
theorem words_at {W : World} {g T n f : Nat} {cs : Array Value} {p : List MemPlace} {L : List Key} (hT : Tryd.prog.underlying T = some (.array n 9)) (hcell : ∀ off, W.cell? ⟨g, off, none⟩ = cs[off]?) (hL : L.length = n) (hd : DataW.trod (fun _ => ()) Tryd.prog W 0 (fun _ => true) false f T cs.toList = some (.agg (L.map fun s => .lit (.string s)), p)) : W.rangeAt g 0 (sv L) := fun j v hj => by
  obtain ⟨xs, m, _, hx, _, hn, hel⟩ := DataW.trod_array hT hd
  simp only [sv, List.getElem?_map, Option.map_eq_some_iff] at hj
  obtain ⟨s, hs, rfl⟩ := hj
  have hjn : j < n := by rw [← hL]; exact (List.getElem?_eq_some_iff.1 hs).1
  have h1 := hel j hjn
  rw [Tryd.cellsG, Nat.mul_one] at h1
  obtain ⟨x, hxj⟩ : ∃ x, xs[j]? = some x := ⟨_, List.getElem?_eq_getElem (by omega)⟩
  rw [hxj] at h1
  obtain ⟨b, e0, d0, _⟩ := DataW.trod_string Tryd.underlying9 h1
  simp only [Prod.mk.injEq, DataW.agg.injEq] at hx
  have h3 := congrArg (fun l => l[j]?) hx.1
  simp only [List.getElem?_map, hxj, hs, Option.map_some, Option.some.injEq, d0, DataW.lit.injEq, Lit.string.injEq] at h3
  rw [Nat.zero_add, hcell]
  have h4 : (cs.toList.drop j)[0]? = some (.string b) := by
    have := congrArg (fun l => l[0]?) e0
    simpa using this
  rw [List.getElem?_drop, Nat.add_zero, Array.getElem?_toList] at h4
  rw [h4, str_eta b, ← h3]
/-- The table of fields, as it is laid. -/
theorem forms_at {W : World} {g T n f : Nat} {cs : Array Value} {p : List MemPlace} {L : List (Bool × Int)} (hT : Tryd.prog.underlying T = some (.array n 102)) (hcell : ∀ off, W.cell? ⟨g, off, none⟩ = cs[off]?) (hL : L.length = n) (hd : DataW.trod (fun _ => ()) Tryd.prog W 0 (fun _ => true) false f T cs.toList = some (.agg (L.map fun s => .agg [.lit (.bool s.1), .lit (.int .i64 s.2)]), p)) : W.rangeAt g 0 (flatF L) := by
  obtain ⟨xs, m, _, hx, _, hn, hel⟩ := DataW.trod_array hT hd
  simp only [Prod.mk.injEq, DataW.agg.injEq] at hx
  have key : ∀ j s, L[j]? = some s → W.cell? ⟨g, 2 * j, none⟩ = some (.bool s.1) ∧ W.cell? ⟨g, 2 * j + 1, none⟩ = some (.int .i64 s.2) := fun j s hs => by
    have hjn : j < n := by rw [← hL]; exact (List.getElem?_eq_some_iff.1 hs).1
    have h1 := hel j hjn
    rw [Tryd.cellsF] at h1
    obtain ⟨x, hxj⟩ : ∃ x, xs[j]? = some x := ⟨_, List.getElem?_eq_getElem (by omega)⟩
    rw [hxj] at h1
    obtain ⟨ys, m2, _, hy, hc, hl2, hfs⟩ := DataW.trod_struct Tryd.underlying102 h1
    rw [Tryd.cellsF] at hc
    obtain ⟨z0, z1, hz⟩ : ∃ z0 z1, (cs.toList.drop (j * 2)).take 2 = [z0, z1] := by
      match (cs.toList.drop (j * 2)).take 2, hc with
      | [a, b], _ => exact ⟨a, b, rfl⟩
    obtain ⟨y0, y1, rfl⟩ : ∃ y0 y1, ys = [y0, y1] := by
      match ys, (show ys.length = 2 by simpa using hl2) with
      | [a, b], _ => exact ⟨a, b, rfl⟩
    rw [hz] at hfs
    have g0 := hfs 0 _ rfl
    simp [Tryd.cellsB] at g0
    have g1 := hfs 1 _ rfl
    simp [Tryd.cellsI] at g1
    obtain ⟨n0, e0, d0⟩ := DataW.trod_bool Tryd.underlying4 g0
    obtain ⟨n1, e1, d1, _⟩ := DataW.trod_int Tryd.underlying3 g1
    simp only [List.cons.injEq, and_true] at e0 e1
    subst e0 e1
    have h3 := congrArg (fun l => l[j]?) hx.1
    simp only [List.getElem?_map, hxj, hs, Option.map_some, Option.some.injEq] at h3
    rw [hy] at h3
    simp only [List.map_cons, List.map_nil, d0, d1, DataW.agg.injEq, List.cons.injEq, DataW.lit.injEq, Lit.int.injEq, Lit.bool.injEq, true_and, and_true] at h3
    obtain ⟨f0, f1⟩ := h3
    have at_ : ∀ i, i < 2 → cs[j * 2 + i]? = [Value.bool n0, .int .i64 n1][i]? := by
      intro i hi
      rw [← hz, List.getElem?_take_of_lt hi, List.getElem?_drop, Array.getElem?_toList]
    have a0 := at_ 0 (by omega)
    have a1 := at_ 1 (by omega)
    simp only [List.getElem?_cons_succ, List.getElem?_cons_zero, Nat.add_zero] at a0 a1
    rw [f0, f1, hcell, hcell, Nat.mul_comm]
    exact ⟨a0, a1⟩
  clear hd hx hel hn hL hT hcell
  suffices H : ∀ (L : List (Bool × Int)) (b : Nat), (∀ j s, L[j]? = some s → W.cell? ⟨g, b + 2 * j, none⟩ = some (.bool s.1) ∧ W.cell? ⟨g, b + 2 * j + 1, none⟩ = some (.int .i64 s.2)) → W.rangeAt g b (flatF L) by
    exact H L 0 fun j s hs => by simpa using key j s hs
  intro L
  induction L with
  | nil => exact fun b _ j v hj => by cases hj
  | cons s r ih =>
    intro b hb j v hj
    obtain ⟨x, y⟩ := s
    have h0 := hb 0 _ rfl
    match j, hj with
    | 0, hj => simp only [flatF, List.getElem?_cons_zero, Option.some.injEq] at hj; subst hj; exact h0.1
    | 1, hj => simp only [flatF, List.getElem?_cons_succ, List.getElem?_cons_zero, Option.some.injEq] at hj; subst hj; exact h0.2
    | j + 2, hj =>
      have hj : (flatF r)[j]? = some v := by simpa [flatF] using hj
      have := ih (b + 2) (fun i s hs => by
        have := hb (i + 1) s (by simpa using hs)
        rw [show b + 2 * (i + 1) = b + 2 + 2 * i by omega] at this
        exact this) j v hj
      rw [show b + (j + 2) = b + 2 + j by omega]
      exact this
theorem of_laid {W : World} (h : laidMetH Tryd.prog laid1 W) : Gl W := by
  rw [MakeChecks.laidMetH_plain _ _ _ (by kernel_rfl)] at h
  obtain ⟨ps, ⟨g3, t3, cs3, f3, p3, q3, hg3, ht3, hv3, hd3, ⟨g1, t1, cs1, f1, p1, q1, hg1, ht1, hv1, hd1, ⟨g2, t2, cs2, f2, p2, q2, hg2, ht2, hv2, hd2, ⟨g4, t4, cs4, f4, p4, q4, hg4, ht4, hv4, hd4, ⟨g0, t0, cs0, f0, p0, q0, hg0, ht0, hv0, hd0, _⟩, _⟩, _⟩, _⟩, _⟩, _, _⟩ := h
  obtain rfl := Option.some.inj ((show Tryd.prog.globalNamed "assize/script.signs" = some 0 by kernel_rfl).symm.trans hg0)
  obtain rfl := Option.some.inj ((show Tryd.prog.globalNamed "assize/script.kindWords" = some 1 by kernel_rfl).symm.trans hg1)
  obtain rfl := Option.some.inj ((show Tryd.prog.globalNamed "assize/script.stepWords" = some 2 by kernel_rfl).symm.trans hg2)
  obtain rfl := Option.some.inj ((show Tryd.prog.globalNamed "assize/script.exprFields" = some 3 by kernel_rfl).symm.trans hg3)
  obtain rfl := Option.some.inj ((show Tryd.prog.globalNamed "assize/script.exprWords" = some 4 by kernel_rfl).symm.trans hg4)
  obtain rfl := Option.some.inj ((show (Tryd.prog.globals[0]?).map (·.type) = some 76 by kernel_rfl).symm.trans ht0)
  obtain rfl := Option.some.inj ((show (Tryd.prog.globals[1]?).map (·.type) = some 85 by kernel_rfl).symm.trans ht1)
  obtain rfl := Option.some.inj ((show (Tryd.prog.globals[2]?).map (·.type) = some 96 by kernel_rfl).symm.trans ht2)
  obtain rfl := Option.some.inj ((show (Tryd.prog.globals[3]?).map (·.type) = some 103 by kernel_rfl).symm.trans ht3)
  obtain rfl := Option.some.inj ((show (Tryd.prog.globals[4]?).map (·.type) = some 104 by kernel_rfl).symm.trans ht4)
  have r0 : W.rangeAt 0 0 (sv signL) := words_at Tryd.underlying76 (World.var?_cell hg0 hv0) rfl hd0
  have r1 : W.rangeAt 1 0 (sv kindL) := words_at Tryd.underlying85 (World.var?_cell hg1 hv1) rfl hd1
  have r2 : W.rangeAt 2 0 (sv stepL) := words_at Tryd.underlying96 (World.var?_cell hg2 hv2) rfl hd2
  have r3 : W.rangeAt 3 0 (flatF formL) := forms_at Tryd.underlying103 (World.var?_cell hg3 hv3) rfl hd3
  have r4 : W.rangeAt 4 0 (sv exprL) := words_at Tryd.underlying104 (World.var?_cell hg4 hv4) rfl hd4
  refine ⟨World.block_lt_of_cell? W _ (r4 0 (.string (str [])) rfl), fun g hg => ?_⟩
  match g, hg with
  | 0, _ => exact r0
  | 1, _ => exact r1
  | 2, _ => exact r2
  | 3, _ => exact r3
  | 4, _ => exact r4
set_option maxRecDepth 100000 in
set_option maxHeartbeats 8000000 in
theorem lifted (os : Os) (started : os.Started) (H : Type) (enc : TypeId × Value → H) :
    ReturnsInHanded {} Tryd.checked os 3 .any (fun w args => (Rows.scriptParsesSpec.pre enc Tryd.prog Tryd.f3 [] false w args ∧ laidMetH Tryd.prog laid1 w) ∧ sizedMet enc Tryd.prog Tryd.f3 (OpenSpec.ofChange Rows.scriptParsesSpec) false w args)
      (Rows.scriptParsesSpec.post enc Tryd.prog Tryd.f3 false true false false) := by
  refine returnsInHanded_of_change_and (C := Tryd.checked) (X := fun w _ => laidMetH Tryd.prog laid1 w) (fun _ _ _ hh h => h.of_heap hh) own started (by kernel_rfl) Tryd.func3
    (ChangeSpec.witness_shaped (enc := enc) (C := Tryd.checked) (os := os) (X := fun w _ => laidMetH Tryd.prog laid1 w) false (World.laidAll Tryd.prog os laid1) #[.string ⟨#[]⟩] 8 (World.laidAll_os _ _ _)
      (World.shaped_of_ZipB (by kernel_rfl) (by kernel_rfl)) (by kernel_rfl) (by kernel_rfl) (by kernel_rfl)
      (by rw [MakeChecks.laidMetH_plain _ _ _ (by kernel_rfl)]; exact laidMet_laidAll _ (by kernel_rfl) (by kernel_rfl))) ?_
  intro W base args ds gs before hval0 hW _ _ hL _
  have hval : ∀ (j : Nat) t v, Tryd.f3.params[j]? = some t → args[j]? = some v → Value.okWide Tryd.prog W .any base t v := hval0
  have hW' := hW
  obtain ⟨p, q, hA0, hV, rfl, hfz, hnd⟩ := hW
  have hA : DataW.TrodAll enc Tryd.prog W 0 (fun _ => true) true Tryd.f3.params.toList args.toList ds p := hA0
  rw [Tryd.params3] at hA hval
  obtain ⟨v0, vs0, d0, ds0, p0, q0, hargs, rfl, rfl, h0, r0⟩ := trodAll_cons hA
  obtain ⟨rfl, rfl, rfl⟩ := trodAll_nil r0
  obtain rfl : args = #[v0] := by cases args; simp_all
  obtain ⟨rfl, rfl⟩ := trodVars_none hV
  obtain ⟨s0, rfl, rfl, rfl, w0⟩ := open_string Tryd.underlying9 (hval 0 9 v0 rfl rfl) h0
  have T := of_laid hL
  clear hA0 hval0 hA hval
  have hs := str_eta s0
  have C := parses_any s0.data.toList W T
  rw [← hs] at C
  refine C.mono fun e W' ⟨he, bel⟩ => ?_
  subst he
  exact ⟨_, rfl, _, _, _, [], _, [], hW', trodAll_mk1 (shut_bool Tryd.underlying4 _), (trodAll_cons_mk (shut_string Tryd.underlying9 w0) trodAll_mk0), rfl, bel.frame _, fun h => by cases h⟩

theorem over : Rows.scriptParsesRow.holds Tryd.pinned (OpenSpec.ofChange Rows.scriptParsesSpec) :=
  OpenClaim.holds_of_wide 3 Tryd.f3 rfl rfl rfl rfl rfl rfl rfl ⟨rfl, rfl, rfl, rfl, rfl⟩ rfl rfl rfl rfl rfl (by kernel_rfl) Tryd.func3 (by kernel_rfl)
    (of_decide_eq_true (by kernel_rfl)) (by unfold Func.isWrapper; first | (rw [if_pos (by decide +kernel)]; kernel_rfl) | (rw [if_neg (by decide +kernel)]; exact ⟨rfl, rfl⟩))
    (fun os started H enc _ => lifted os started H enc)

theorem card : Rows.ScriptParsesCardSaid :=
  Claim7.holds_tied_plain_at .later [] [.data, .data, .data, .data, .data] true (true, "e26af8d543ea713af4b9ba3e32674fbde1cfef93ac2beec36ce63a81cfb50c2c") false
    over (fun _ h => by cases h) (by kernel_rfl) (fun _ h => by cases h) scriptParses_row_tie rfl ⟨rfl, rfl⟩ (by kernel_rfl) rfl
    (fun f fn hf hfn => by
      obtain rfl : f = 3 := Option.some.inj ((show Tryd.prog.funcNamed "assize/assizelaw.ScriptParses" = some 3 by kernel_rfl).symm.trans hf) |>.symm
      obtain rfl : fn = Tryd.f3 := (Option.some.inj (Tryd.func3.symm.trans hfn)).symm
      exact ⟨by kernel_rfl, fun j t ht => by
        rw [Tryd.params3] at ht
        have hm : t ∈ [9] := by simpa using Array.mem_of_getElem? ht
        have hall : ([9].all fun u => !Tryd.prog.wantsStandIn u) = true := by kernel_rfl
        exact (show Tryd.prog.wantsStandIn t = false by simpa using List.all_eq_true.1 hall t hm)⟩)
    (by kernel_rfl)
end Go.Proofs.YtgpjlocgkdlnlaaDoor.scriptParses
namespace Go.Proofs.YtgpjlocgkdlnlaaDoor

/-- The statement: the tied card. -/
theorem scriptParses_holds : Rows.ScriptParsesCardSaid := scriptParses.card
end Go.Proofs.YtgpjlocgkdlnlaaDoor
