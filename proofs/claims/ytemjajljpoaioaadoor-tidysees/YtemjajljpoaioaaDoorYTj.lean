import Derived.Test.YtemjajljpoaioaaDoorM51
namespace Go.Proofs.YtemjajljpoaioaaDoor
open Go.RowKit
set_option linter.unusedVariables false
set_option linter.unusedSimpArgs false
set_option maxRecDepth 20000
set_option maxHeartbeats 8000000
theorem sd_extr {P : Program} {md : Region.Mode} {ops : Array Oper} {Q : Exit → Act → World → Prop} {S : World → Prop} {fuel : Nat} {listed : Array Bool} {a : Act} {w : World} {o : Oper} {N : Nat} {L : List (Nat × Value)} (F : Fm N L a) (j : Nat) {i k : Nat} {x : Operand} {vs : Array Value} {v : Value} (hj : ops[j]? = some o) (h : Is o (some i) (.extract x k)) (hx : opv L x = some (.tuple vs)) (hv : vs[k]? = some v) (hs : Region.noSelect ops = true) (hf : Region.free md ops listed j = true) (hr : (Region.ready md ops listed).contains j = true) (hQ : ∀ c a w, Q (.panic c) (a.put (some i) v) w → Q (.panic c) a w) (hb : Nat.blt i N = true) (hS : S w) (K : ∀ a', Fm N ((i, v) :: L) a' → wpAnyH P md ops Q S fuel (listed.setIfInBounds j true) a' w) : wpAnyH P md ops Q S (fuel + 1) listed a w :=
 sd_val F j hj hs hf hr hQ h.1 h.2.2 hb (fun w _ => by unfold execOp; rw [h.2.1]; simp only [F.ev hx]; simp [Instr.extract, hv]) hS K
theorem Lst.Held.up {α : Type} {flds : α → List Fld} {sz : Nat} {w w' : World} {l : Lst α} (hz : ∀ x, (flds x).length = sz) (h : l.Held flds sz w.heap.size w) (hb : Below w.heap.size w w') : l.Held flds sz w'.heap.size w' :=
 Lst.held hz (Fld.good_mono hb.size _ (Lst.good hz (h.below hb)))
theorem PsAt.up {w w' : World} {c : Cd} (h : PsAt w.heap.size w c) (hb : Below w.heap.size w w') : PsAt w'.heap.size w' c := Lst.Held.up Pc.len h hb
def liveB : List Ins := [⟨1, 2, 0⟩, ⟨1, 3, 0⟩, ⟨5, 0, 0⟩, ⟨17, 0, 0⟩]
def liveP (xb : Nat) : Pc := ⟨[], false, 0, 0, ⟨some ⟨xb, 0, none⟩, 4, liveB⟩⟩
def liveC (xb xp : Nat) : Cd := ⟨⟨some ⟨xp, 0, none⟩, 1, [liveP xb]⟩, ⟨none, 0, []⟩⟩
theorem live_lie : ∀ d ∈ liveB.map Ins.flds, ∀ lo w, lieAll lo w d := fun d hd lo w => by
 obtain ⟨i, hi, rfl⟩ := List.mem_map.1 hd
 simp only [liveB, List.mem_cons, List.not_mem_nil, or_false] at hi
 rcases hi with rfl | rfl | rfl | rfl <;> exact lie_cons (lie_i (by decide)) (lie_cons (lie_i (by decide)) (lie_cons (lie_i (by decide)) (lie_nil _ _)))
theorem live_apart : ∀ d ∈ liveB.map Ins.flds, ∀ b, apartAll b d := fun d hd b => by
 obtain ⟨i, _, rfl⟩ := List.mem_map.1 hd
 exact ins_apart i b
theorem live_ok (xb xp : Nat) : checkP (liveC xb xp) = 0 := (checkP_iff _).2 {
 np := by show 1 ≤ 32; decide
 le := fun p hp => by rw [List.mem_singleton.1 hp]; exact ⟨by show 4 ≤ 2048; decide, by show (0 : Int) ≤ 32; decide, by show (0 : Int) ≤ 8; decide⟩
 pa := fun p hp => by rw [List.mem_singleton.1 hp]; exact ⟨by show (0 : Int) ≤ 0; decide, by show (0 : Int) ≤ 0; decide⟩
 fb := fun p hp => by
  rw [List.mem_singleton.1 hp]
  refine ⟨fun i hi => ?_, good_of_done (hs := [0, 1, 2, 1]) rfl rfl fun k h hk _ => ?_⟩
  ·simp only [liveP, liveB, List.mem_cons, List.not_mem_nil, or_false] at hi
   rcases hi with rfl | rfl | rfl | rfl <;> rfl
  ·match k, hk with
   | 0, hk => cases hk; exact ⟨by decide, fun i hi => by cases hi; exact ⟨(by show (0 : Int) ≤ 0; decide), (fun q => absurd q (by decide)), fun t ht => by cases ht with | head => exact ⟨rfl, (by show (0 : Int) ≤ 0 - 0 + 1; decide)⟩ | tail _ q => cases q⟩⟩
   | 1, hk => cases hk; exact ⟨by decide, fun i hi => by cases hi; exact ⟨(by show (0 : Int) ≤ 1; decide), (fun q => absurd q (by decide)), fun t ht => by cases ht with | head => exact ⟨rfl, (by show (0 : Int) ≤ 1 - 0 + 1; decide)⟩ | tail _ q => cases q⟩⟩
   | 2, hk => cases hk; exact ⟨by decide, fun i hi => by cases hi; exact ⟨(by show (2 : Int) ≤ 2; decide), (fun q => absurd q (by decide)), fun t ht => by cases ht with | head => exact ⟨rfl, (by show (0 : Int) ≤ 2 - 2 + 1; decide)⟩ | tail _ q => cases q⟩⟩
   | 3, hk => cases hk; exact ⟨by decide, fun i hi => by cases hi; exact ⟨(by show (1 : Int) ≤ 1; decide), (fun _ => rfl), fun t ht => by cases ht⟩⟩
   | k + 4, hk => cases hk }
theorem ttidy2_m {w0 : World} {c : Cd} (T : Tab w0) (P : PsAt w0.heap.size w0 c) (NH : c.ns.Held nameFlds 1 w0.heap.size w0) (hnn : c.ns.xs.length ≤ 9223372036854775807) (hnm : c.ns.xs.length ≤ 100000000000) : Calls Tryd.prog 5 ([.agg #[.slice c.ps.la c.ps.xs.length c.ps.lc, .slice c.ns.la c.ns.xs.length c.ns.lc]] : List Value).toArray w0 fun e w' => (∃ d : Cd, e = .returned (.tuple #[.agg #[.slice d.ps.la d.ps.xs.length d.ps.lc, .slice d.ns.la d.ns.xs.length d.ns.lc], .int .i64 (checkP c)]) ∧ lieAll w0.heap.size w' d.fs ∧ (checkP c = 0 → TidC c d)) ∧ Below w0.heap.size w0 w' :=
 (ttidy_m T P NH hnn hnm).mono fun e w' ⟨h, b⟩ => ⟨by
  rcases h with ⟨hne, rfl⟩ | ⟨h0, d, hT, hL, rfl⟩
  ·exact ⟨⟨⟨none, 0, []⟩, ⟨none, 0, []⟩⟩, rfl, lie_cons (lies_nil _ _) (lie_cons (lies_nil _ _) (lie_nil _ _)), fun q => absurd q hne⟩
  ·exact ⟨d, by rw [h0], hL, fun _ => hT⟩, b⟩
theorem TidC.same {c d : Cd} (T : TidC c d) (h : CdOk c) (hf : ∀ q ∈ c.ps.xs, rndP q.bd.xs = q.bd.xs) : SameCd c d := ⟨T.ns, T.len, fun k p hp => by
 obtain ⟨q, hq, e1, e2, e3, e4, m, hm⟩ := T.pc k p hp
 have e5 : p.bd.xs = q.bd.xs := tidP_one (m := 1) (by unfold tidP; rw [if_pos (hf p (List.mem_of_getElem? hp)), hf p (List.mem_of_getElem? hp)]) hm
 obtain ⟨a1, a2, a3, a4, ⟨a5, a6, a7⟩⟩ := q
 simp only at e1 e2 e3 e4 e5
 subst e1 e2 e3 e4 e5
 exact ⟨a5, a6, hq⟩⟩
set_option maxRecDepth 20000 in
set_option maxHeartbeats 8000000 in
theorem sees_m {w0 : World} {c : Cd} (T : Tab w0) (P : PsAt w0.heap.size w0 c) (NH : c.ns.Held nameFlds 1 w0.heap.size w0) (hsz : c.ps.xs.length + c.ns.xs.length ≤ 9223372036854775807) : Calls Tryd.prog 3 ([.agg #[.slice c.ps.la c.ps.xs.length c.ps.lc, .slice c.ns.la c.ns.xs.length c.ns.lc]] : List Value).toArray w0 fun e w' => e = .returned (.bool true) ∧ Below w0.heap.size w0 w' := by
 have M := bx_begin (w0 := w0) (w := w0) (Below.refl _ _)
 refine sw_fn Tryd.func3 rfl 97 Tryd.ntmps3 rfl fun A F => ?_
 refine sw_seq ?_
 refine sw_reg ?_
 refine sw_box F M [.slice c.ps.la c.ps.xs.length c.ps.lc, .slice c.ns.la c.ns.xs.length c.ns.lc] ⟨rfl, rfl, rfl⟩ rfl rfl rfl fun x1 A w F M => ?_
 refine sw_asg F ⟨rfl, rfl, rfl⟩ rfl rfl fun A F => ?_
 refine sw_end ?_
 show Code.wp _ _ _ _ _
 refine sw_seq ?_
 refine sw_seq ?_
 refine sw_reg ?_
 refine sw_all F M 0 ⟨rfl, rfl, rfl⟩ rfl rfl (by kernel_rfl) (by kernel_rfl) rfl fun A F => ?_
 refine sw_callR (by kernel_rfl) (wide_m (w0 := w) (PsAt.up P M.st) (Lst.Held.up nameFlds_len NH M.st) (by omega)) F ⟨rfl, rfl, rfl⟩ rfl rfl ?_
 rintro _ w ⟨⟨z, rfl, hz⟩, hb⟩
 refine ⟨_, rfl, fun A F => ?_⟩
 replace M := M.aft hb
 clear hb
 refine sw_end ?_
 show Code.wp _ _ _ _ _
 refine sw_cond F rfl (fun hc2 => ?_) (fun hc2 => ?_)
 ·skip
  subst hc2
  refine sw_seq ?_
  refine sw_reg ?_
  refine sw_asg F ⟨rfl, rfl, rfl⟩ rfl rfl fun A F => ?_
  refine sw_end ?_
  show Code.wp _ _ _ _ _
  refine wp_ret ?_
  repeat (first | refine then_ret ?_ | refine block_ret ?_)
  exact sw_rettmp F Tryd.results3 rfl ⟨rfl, M.st⟩
 ·skip
  subst hc2
  replace hz := hz rfl
  refine wp_skip ?_
  show Code.wp _ _ _ _ _
  refine sw_seq ?_
  refine sw_reg ?_
  refine sw_build F _ [.int .i64 1, .int .i64 2, .int .i64 0] ⟨rfl, rfl, rfl⟩ rfl (by kernel_rfl) rfl fun A F => ?_
  refine sw_build F _ [.int .i64 1, .int .i64 3, .int .i64 0] ⟨rfl, rfl, rfl⟩ rfl (by kernel_rfl) rfl fun A F => ?_
  refine sw_build F _ [.int .i64 5, .int .i64 0, .int .i64 0] ⟨rfl, rfl, rfl⟩ rfl (by kernel_rfl) rfl fun A F => ?_
  refine sw_build F _ [.int .i64 17, .int .i64 0, .int .i64 0] ⟨rfl, rfl, rfl⟩ rfl (by kernel_rfl) rfl fun A F => ?_
  refine sw_mkrow (ety := 31) (sz := 3) (z := .agg #[.int .i64 0, .int .i64 0, .int .i64 0]) F M _ (liveB.map Ins.flds) ⟨rfl, rfl, rfl⟩ rfl Tryd.underlying32 (by kernel_rfl) rfl (by kernel_rfl) rfl (fun d hd => ⟨flds3 d hd, live_lie d hd _ _⟩) (fun _ _ b _ _ d hd => live_apart d hd b) rfl fun xb A w F M => ?_
  replace M := M.freeze 0 rfl
  simp only [List.set_cons_zero] at M
  refine sw_build F _ [.string ⟨#[]⟩, .bool false, .int .i64 0, .int .i64 0, .slice (some ⟨xb, 0, none⟩) 4 4] ⟨rfl, rfl, rfl⟩ rfl (by kernel_rfl) rfl fun A F => ?_
  refine sw_mkrow (ety := 34) (sz := 5) (z := .agg #[.string ⟨#[]⟩, .bool false, .int .i64 0, .int .i64 0, .slice none 0 0]) F M _ [(liveP xb).flds] ⟨rfl, rfl, rfl⟩ rfl Tryd.underlying22 (by kernel_rfl) rfl (by kernel_rfl) rfl ?_ ?_ rfl fun xp A w F M => ?_
  ·intro d hd
   rw [List.mem_singleton.1 hd]
   exact ⟨rfl, lie_cons trivial (lie_cons trivial (lie_cons (lie_i (by show _ ≤ (0 : Int) ∧ (0 : Int) ≤ _; decide)) (lie_cons (lie_i (by show _ ≤ (0 : Int) ∧ (0 : Int) ≤ _; decide)) (M.mem.val (k := 0) rfl))))⟩
  ·intro i f b hf hm d hd
   rw [List.mem_singleton.1 hd]
   have hv := (M.mem.vals 0 rfl).2 i f b hf hm
   intro x hx
   simp only [liveP, Pc.flds, List.mem_cons, List.not_mem_nil, or_false] at hx
   rcases hx with rfl | rfl | rfl | rfl | rfl
   ·trivial
   ·trivial
   ·trivial
   ·trivial
   ·exact hv _ (List.mem_singleton.2 rfl)
  replace M := M.freeze 0 rfl
  simp only [List.set_cons_zero] at M
  refine sw_build F _ [.slice (some ⟨xp, 0, none⟩) 1 1, .slice none 0 0] ⟨rfl, rfl, rfl⟩ rfl (by kernel_rfl) rfl fun A F => ?_
  have HL := Cd.held (c := liveC xb xp) (lo := w0.heap.size) (w := w) (lie_cons (M.mem.val (k := 0) rfl _ (List.mem_singleton.2 rfl)) (lie_cons (lies_nil _ _) (lie_nil _ _)))
  refine sw_callR (by kernel_rfl) (ttidy2_m (c := liveC xb xp) (T.below M.st T.1) HL.1 HL.2 (Nat.zero_le _) (Nat.zero_le _)) F ⟨rfl, rfl, rfl⟩ rfl rfl ?_
  rintro _ w ⟨⟨d0, rfl, hL, hT0⟩, hb⟩
  refine ⟨_, rfl, fun A F => ?_⟩
  replace M := M.ret (s' := ()) (But.of_below hb) (M.st.trans (hb.mono M.mem.le)) hL
  clear hb hL
  replace hT0 := hT0 (live_ok xb xp)
  have hlen0 : d0.ps.xs.length = 1 := hT0.len
  obtain ⟨q0, hq0, _, _, _, _, kq, hkq⟩ := hT0.pc 0 (liveP xb) rfl
  have hbd0 : q0.bd.xs.length = 2 := by
   have := tidP_one hkq live_tid
   rw [this]
   rfl
  rw [show checkP (liveC xb xp) = 0 from live_ok xb xp] at F
  refine sw_move F ⟨rfl, rfl, rfl⟩ rfl rfl fun A F => ?_
  refine sw_extr F ⟨rfl, rfl, rfl⟩ rfl rfl rfl fun A F => ?_
  refine sw_extr F ⟨rfl, rfl, rfl⟩ rfl rfl rfl fun A F => ?_
  refine sw_alloc F M [.slice none 0 0, .slice none 0 0] ⟨rfl, rfl, rfl⟩ (by kernel_rfl) rfl fun x3 A w F M => ?_
  refine sw_setAll F M 0 ⟨rfl, rfl, rfl⟩ rfl rfl rfl (by kernel_rfl) rfl rfl fun w M => ?_
  simp only [List.set_cons_zero, List.set_cons_succ] at M
  refine sw_asg F ⟨rfl, rfl, rfl⟩ rfl rfl fun A F => ?_
  refine sw_end ?_
  show Code.wp _ _ _ _ _
  refine sw_seq ?_
  refine sw_seq ?_
  refine sw_reg ?_
  refine sw_move F ⟨rfl, rfl, rfl⟩ rfl rfl fun A F => ?_
  refine sw_neq F ⟨rfl, rfl, rfl⟩ rfl rfl rfl fun A F => ?_
  refine sw_move F ⟨rfl, rfl, rfl⟩ rfl rfl fun A F => ?_
  refine sw_on F 2 rfl rfl rfl rfl rfl ?_
  refine sw_fld F 0 ⟨rfl, rfl, rfl⟩ rfl (by kernel_rfl) rfl rfl fun A F => ?_
  refine sw_on F 2 rfl rfl rfl rfl rfl ?_
  refine sw_cell F M 0 ⟨rfl, rfl, rfl⟩ rfl rfl rfl (by kernel_rfl) rfl fun A F => ?_
  refine sw_on F 2 rfl rfl rfl rfl rfl ?_
  refine sw_len F ⟨rfl, rfl, rfl⟩ rfl Tryd.underlying22 rfl fun A F => ?_
  refine sw_on F 2 rfl rfl rfl rfl rfl ?_
  refine sw_neq F ⟨rfl, rfl, rfl⟩ rfl rfl rfl fun A F => ?_
  rw [show (((d0.ps.xs.length : Nat) : Int) != 1) = false by rw [hlen0]; rfl] at F
  refine sw_pickF F ⟨rfl, rfl, rfl⟩ rfl rfl rfl fun A F => ?_
  refine sw_move F ⟨rfl, rfl, rfl⟩ rfl rfl fun A F => ?_
  refine sw_on F 8 rfl rfl rfl rfl rfl ?_
  refine sw_fld F 0 ⟨rfl, rfl, rfl⟩ rfl (by kernel_rfl) rfl rfl fun A F => ?_
  refine sw_on F 8 rfl rfl rfl rfl rfl ?_
  refine sw_cell F M 0 ⟨rfl, rfl, rfl⟩ rfl rfl rfl (by kernel_rfl) rfl fun A F => ?_
  refine sw_on F 8 rfl rfl rfl rfl rfl ?_
  obtain ⟨rb, ro, hla, hrg, _⟩ := held_pc (Cd.held (M.mem.val (k := 1) rfl)).1 hq0
  refine sw_at F 5 (k := 0) (n := d0.ps.xs.length) (c := d0.ps.lc) ⟨rfl, rfl, rfl⟩ (by rw [← hla]; rfl) rfl (by omega) Tryd.underlying22 (by kernel_rfl) rfl fun A F => ?_
  refine sw_on F 8 rfl rfl rfl rfl rfl ?_
  refine sw_fld F 4 ⟨rfl, rfl, rfl⟩ rfl (by kernel_rfl) rfl rfl fun A F => ?_
  refine sw_on F 8 rfl rfl rfl rfl rfl ?_
  refine sw_ext F (hrg _ (Below.refl _ _) 4 _ rfl) ⟨rfl, rfl, rfl⟩ rfl (by kernel_rfl) rfl fun A F => ?_
  refine sw_on F 8 rfl rfl rfl rfl rfl ?_
  refine sw_len F ⟨rfl, rfl, rfl⟩ rfl Tryd.underlying32 rfl fun A F => ?_
  refine sw_on F 8 rfl rfl rfl rfl rfl ?_
  refine sw_neq F ⟨rfl, rfl, rfl⟩ rfl rfl rfl fun A F => ?_
  rw [show (((q0.bd.xs.length : Nat) : Int) != 2) = false by rw [hbd0]; rfl] at F
  refine sw_pickF F ⟨rfl, rfl, rfl⟩ rfl rfl rfl fun A F => ?_
  refine sw_end ?_
  show Code.wp _ _ _ _ _
  refine sw_false F rfl ?_
  refine wp_skip ?_
  show Code.wp _ _ _ _ _
  refine sw_seq ?_
  refine sw_reg ?_
  refine sw_all F M 4 ⟨rfl, rfl, rfl⟩ rfl rfl (by kernel_rfl) (by kernel_rfl) rfl fun A F => ?_
  refine sw_callR (by kernel_rfl) (rcheck_any w0.heap.size c w (T.below M.st T.1) T.1 M.mem.le (Lst.Held.below P M.st) (by omega)) F ⟨rfl, rfl, rfl⟩ rfl rfl ?_
  rintro _ w ⟨rfl, hb⟩
  refine ⟨_, rfl, fun A F => ?_⟩
  replace M := M.aft hb
  clear hb
  refine sw_asg F ⟨rfl, rfl, rfl⟩ rfl rfl fun A F => ?_
  refine sw_end ?_
  show Code.wp _ _ _ _ _
  refine sw_seq ?_
  refine sw_reg ?_
  refine sw_all F M 4 ⟨rfl, rfl, rfl⟩ rfl rfl (by kernel_rfl) (by kernel_rfl) rfl fun A F => ?_
  have HC : PsAt w.heap.size w c ∧ c.ns.Held nameFlds 1 w.heap.size w := ⟨PsAt.up P M.st, Lst.Held.up nameFlds_len NH M.st⟩
  refine sw_callR (by kernel_rfl) (ttidy2_m (c := c) (T.below M.st T.1) HC.1 HC.2 (by omega) (by omega)) F ⟨rfl, rfl, rfl⟩ rfl rfl ?_
  rintro _ w ⟨⟨d, rfl, hL, hT⟩, hb⟩
  refine ⟨_, rfl, fun A F => ?_⟩
  replace M := M.ret (s' := ()) (But.of_below hb) (M.st.trans (hb.mono M.mem.le)) hL
  clear hb hL
  refine sw_move F ⟨rfl, rfl, rfl⟩ rfl rfl fun A F => ?_
  refine sw_extr F ⟨rfl, rfl, rfl⟩ rfl rfl rfl fun A F => ?_
  refine sw_extr F ⟨rfl, rfl, rfl⟩ rfl rfl rfl fun A F => ?_
  refine sw_alloc F M [.slice none 0 0, .slice none 0 0] ⟨rfl, rfl, rfl⟩ (by kernel_rfl) rfl fun x4 A w F M => ?_
  refine sw_setAll F M 0 ⟨rfl, rfl, rfl⟩ rfl rfl rfl (by kernel_rfl) rfl rfl fun w M => ?_
  simp only [List.set_cons_zero, List.set_cons_succ] at M
  refine sw_asg F ⟨rfl, rfl, rfl⟩ rfl rfl fun A F => ?_
  refine sw_end ?_
  show Code.wp _ _ _ _ _
  refine sw_seq ?_
  refine sw_seq ?_
  refine sw_reg ?_
  refine sw_move F ⟨rfl, rfl, rfl⟩ rfl rfl fun A F => ?_
  refine sw_neq F ⟨rfl, rfl, rfl⟩ rfl rfl rfl fun A F => ?_
  refine sw_move F ⟨rfl, rfl, rfl⟩ rfl rfl fun A F => ?_
  cases c5 : ((checkP c) != 0) with
  | true =>
   rw [c5] at F
   refine sw_off F 2 rfl rfl rfl rfl rfl rfl rfl fun A F => ?_
   refine sw_off F 2 rfl rfl rfl rfl rfl rfl rfl fun A F => ?_
   refine sw_pickT F ⟨rfl, rfl, rfl⟩ rfl rfl rfl fun A F => ?_
   refine sw_end ?_
   show Code.wp _ _ _ _ _
   refine sw_true F rfl ?_
   refine sw_seq ?_
   refine sw_reg ?_
   refine sw_move F ⟨rfl, rfl, rfl⟩ rfl rfl fun A F => ?_
   refine sw_move F ⟨rfl, rfl, rfl⟩ rfl rfl fun A F => ?_
   refine sw_eql F ⟨rfl, rfl, rfl⟩ rfl rfl rfl fun A F => ?_
   refine sw_asg F ⟨rfl, rfl, rfl⟩ rfl rfl fun A F => ?_
   refine sw_end ?_
   show Code.wp _ _ _ _ _
   refine wp_ret ?_
   repeat (first | refine then_ret ?_ | refine block_ret ?_)
   rw [show (checkP c == checkP c) = true from beq_self_eq_true _] at F
   exact sw_rettmp F Tryd.results3 rfl ⟨rfl, M.st⟩
  | false =>
   rw [c5] at F
   have h0 : checkP c = 0 := by simpa using c5
   replace hT := hT h0
   have OKc := (checkP_iff c).1 h0
   obtain ⟨OKd, hfix⟩ := hT.ok OKc
   rw [h0] at F
   refine sw_on F 2 rfl rfl rfl rfl rfl ?_
   refine sw_move F ⟨rfl, rfl, rfl⟩ rfl rfl fun A F => ?_
   refine sw_on F 2 rfl rfl rfl rfl rfl ?_
   refine sw_neq F ⟨rfl, rfl, rfl⟩ rfl rfl rfl fun A F => ?_
   refine sw_pickF F ⟨rfl, rfl, rfl⟩ rfl rfl rfl fun A F => ?_
   refine sw_end ?_
   show Code.wp _ _ _ _ _
   refine sw_false F rfl ?_
   refine wp_skip ?_
   show Code.wp _ _ _ _ _
   refine sw_seq ?_
   refine sw_reg ?_
   refine sw_all F M 0 ⟨rfl, rfl, rfl⟩ rfl rfl (by kernel_rfl) (by kernel_rfl) rfl fun A F => ?_
   have HD := Cd.held (M.mem.val (k := 1) rfl)
   refine sw_callR (by kernel_rfl) (ttidy2_m (c := d) (T.below M.st T.1) HD.1 HD.2 (by rw [hT.ns]; omega) (by rw [hT.ns]; omega)) F ⟨rfl, rfl, rfl⟩ rfl rfl ?_
   rintro _ w ⟨⟨d2, rfl, hL, hT2⟩, hb⟩
   refine ⟨_, rfl, fun A F => ?_⟩
   replace M := M.ret (s' := ()) (But.of_below hb) (M.st.trans (hb.mono M.mem.le)) hL
   clear hb hL
   replace hT2 := hT2 ((checkP_iff d).2 OKd)
   refine sw_move F ⟨rfl, rfl, rfl⟩ rfl rfl fun A F => ?_
   refine sw_extr F ⟨rfl, rfl, rfl⟩ rfl rfl rfl fun A F => ?_
   refine sw_extr F ⟨rfl, rfl, rfl⟩ rfl rfl rfl fun A F => ?_
   refine sw_alloc F M [.slice none 0 0, .slice none 0 0] ⟨rfl, rfl, rfl⟩ (by kernel_rfl) rfl fun x6 A w F M => ?_
   refine sw_setAll F M 0 ⟨rfl, rfl, rfl⟩ rfl rfl rfl (by kernel_rfl) rfl rfl fun w M => ?_
   simp only [List.set_cons_zero, List.set_cons_succ] at M
   refine sw_asg F ⟨rfl, rfl, rfl⟩ rfl rfl fun A F => ?_
   refine sw_end ?_
   show Code.wp _ _ _ _ _
   refine sw_seq ?_
   refine sw_reg ?_
   refine sw_all F M 2 ⟨rfl, rfl, rfl⟩ rfl rfl (by kernel_rfl) (by kernel_rfl) rfl fun A F => ?_
   refine sw_all F M 0 ⟨rfl, rfl, rfl⟩ rfl rfl (by kernel_rfl) (by kernel_rfl) rfl fun A F => ?_
   have HD := Cd.held (M.mem.val (k := 3) rfl)
   have HD2 := Cd.held (M.mem.val (k := 1) rfl)
   refine sw_callR (by kernel_rfl) (tsame_m (w0 := w) HD.1 HD.2 HD2.1 HD2.2 (hT2.same OKd hfix) (by have := OKd.np; omega) (by rw [hT.ns]; omega) (fun p hp => (OKd.le p hp).1)) F ⟨rfl, rfl, rfl⟩ rfl rfl ?_
   rintro _ w ⟨rfl, hb⟩
   refine ⟨_, rfl, fun A F => ?_⟩
   replace M := M.aft hb
   clear hb
   clear HD HD2
   refine sw_asg F ⟨rfl, rfl, rfl⟩ rfl rfl fun A F => ?_
   refine sw_end ?_
   show Code.wp _ _ _ _ _
   refine sw_seq ?_
   refine sw_seq ?_
   refine sw_reg ?_
   refine sw_move F ⟨rfl, rfl, rfl⟩ rfl rfl fun A F => ?_
   refine sw_not F ⟨rfl, rfl, rfl⟩ rfl rfl fun A F => ?_
   refine sw_end ?_
   show Code.wp _ _ _ _ _
   refine sw_false F rfl ?_
   refine wp_skip ?_
   show Code.wp _ _ _ _ _
   refine sw_seq ?_
   refine sw_seq ?_
   refine sw_reg ?_
   refine sw_asg F ⟨rfl, rfl, rfl⟩ rfl rfl fun A F => ?_
   refine sw_end ?_
   show Code.wp _ _ _ _ _
   refine wp_block ?_
   refine wp_loop (fun A w => ∃ j : Nat, (j ≤ d.ps.xs.length) ∧ Fm 97 [(6, ptr x4), (11, .int .i64 ((j : Nat) : Int))] A ∧ Mm (Bx w0) (fun _ => False) w0 [.box x6 [.slice d2.ps.la d2.ps.xs.length d2.ps.lc, .slice d2.ns.la d2.ns.xs.length d2.ns.lc] 25, .val d2.fs, .box x4 [.slice d.ps.la d.ps.xs.length d.ps.lc, .slice d.ns.la d.ns.xs.length d.ns.lc] 25, .val d.fs, .box x3 [.slice d0.ps.la d0.ps.xs.length d0.ps.lc, .slice d0.ns.la d0.ns.xs.length d0.ns.lc] 25, .val d0.fs, .val [.l (some ⟨xp, 0, none⟩) 1 [(liveP xb).flds]], .val [.l (some ⟨xb, 0, none⟩) 4 (liveB.map Ins.flds)], .box x1 [.slice c.ps.la c.ps.xs.length c.ps.lc, .slice c.ns.la c.ns.xs.length c.ns.lc] 25] () w) (fun A _ => d.ps.xs.length - (intOf (A.eval (.tmp 11))).toNat) ?_ ?_
   ·exact ⟨0, (Nat.zero_le _), F.keep [6, 11] rfl, M⟩
   repeat clear F
   repeat clear M
   rintro A w ⟨j, hj, F, M⟩
   have hA11 : A.eval (.tmp 11) = .int .i64 ((j : Nat) : Int) := F.2.2 11 _ rfl
   refine sw_seq ?_
   refine sw_seq ?_
   refine sw_reg ?_
   refine sw_move F ⟨rfl, rfl, rfl⟩ rfl rfl fun A F => ?_
   refine sw_fld F 0 ⟨rfl, rfl, rfl⟩ rfl (by kernel_rfl) rfl rfl fun A F => ?_
   refine sw_cell F M 2 ⟨rfl, rfl, rfl⟩ rfl rfl rfl (by kernel_rfl) rfl fun A F => ?_
   refine sw_len F ⟨rfl, rfl, rfl⟩ rfl Tryd.underlying22 rfl fun A F => ?_
   refine sw_lss F ⟨rfl, rfl, rfl⟩ rfl rfl rfl fun A F => ?_
   refine sw_end ?_
   show Code.wp _ _ _ _ _
   refine sw_cond F rfl (fun hc7 => ?_) (fun hc7 => ?_)
   ·skip
    have hjl : j < d.ps.xs.length := by have := of_decide_eq_true hc7; omega
    obtain ⟨q, hq⟩ : ∃ q, d.ps.xs[j]? = some q := ⟨_, List.getElem?_eq_getElem hjl⟩
    have hpl := (OKd.fb q (List.mem_of_getElem? hq)).plain (hfix q (List.mem_of_getElem? hq))
    refine wp_skip ?_
    show Code.wp _ _ _ _ _
    refine sw_seq ?_
    refine wp_block ?_
    refine sw_seq ?_
    have HDp := (Cd.held (M.mem.val (k := 3) rfl)).1
    obtain ⟨rb, ro, hla, _, _⟩ := held_pc HDp hq
    refine wp_region_held (S := fun w' => w'.cell? ⟨x4, 0, none⟩ = some (.slice d.ps.la d.ps.xs.length d.ps.lc) ∧ w'.rangeAt x4 0 [.slice d.ps.la d.ps.xs.length d.ps.lc, .slice d.ns.la d.ns.xs.length d.ns.lc] ∧ w'.rangeAt rb (ro + j * 5) [.string ⟨q.nm.toArray⟩, .bool q.open_, .int .i64 q.pa, .int .i64 q.lo, .slice q.bd.la q.bd.xs.length q.bd.lc]) (by kernel_rfl) ?_
    show wpAnyH _ _ _ _ _ _ _ _ w.drew
    replace M := M.drew
    obtain ⟨rb', ro', hla', hrg, hbd⟩ := held_pc (Cd.held (M.mem.val (k := 3) rfl)).1 hq
    obtain ⟨rfl, rfl⟩ : rb = rb' ∧ ro = ro' := by rw [hla] at hla'; simpa using hla'
    clear hla'
    have hrd : w.drew.rangeAt rb (ro + j * 5) [.string ⟨q.nm.toArray⟩, .bool q.open_, .int .i64 q.pa, .int .i64 q.lo, .slice q.bd.la q.bd.xs.length q.bd.lc] := hrg _ (Below.refl _ _)
    have hS : w.drew.cell? ⟨x4, 0, none⟩ = some (.slice d.ps.la d.ps.xs.length d.ps.lc) ∧ w.drew.rangeAt x4 0 [.slice d.ps.la d.ps.xs.length d.ps.lc, .slice d.ns.la d.ns.xs.length d.ns.lc] ∧ w.drew.rangeAt rb (ro + j * 5) [.string ⟨q.nm.toArray⟩, .bool q.open_, .int .i64 q.pa, .int .i64 q.lo, .slice q.bd.la q.bd.xs.length q.bd.lc] := ⟨M.cell 2 rfl rfl, (M.mem.box (k := 2) rfl).1.range, hrd⟩
    refine sd_rng F 0 (cs := [.slice d.ps.la d.ps.xs.length d.ps.lc, .slice d.ns.la d.ns.xs.length d.ns.lc]) rfl ⟨rfl, rfl, rfl⟩ rfl (by kernel_rfl) (by kernel_rfl) (fun w h => h.2.1) (by kernel_rfl) (by kernel_rfl) (by kernel_rfl) (fun _ _ _ h => h) rfl hS fun A F => ?_
    refine sd_fld F 1 0 rfl ⟨rfl, rfl, rfl⟩ rfl (by kernel_rfl) rfl (by kernel_rfl) (by kernel_rfl) (by kernel_rfl) (fun _ _ _ h => h) rfl hS fun A F => ?_
    refine sd_cell F 2 rfl ⟨rfl, rfl, rfl⟩ rfl (by kernel_rfl) (fun _ h => h.1) (by kernel_rfl) (by kernel_rfl) (by kernel_rfl) (fun _ _ _ h => h) rfl hS fun A F => ?_
    refine sd_move F 3 rfl ⟨rfl, rfl, rfl⟩ rfl (by kernel_rfl) (by kernel_rfl) (by kernel_rfl) (fun _ _ _ h => h) rfl hS fun A F => ?_
    refine sd_at F 4 5 (k := j) (n := d.ps.xs.length) (c := d.ps.lc) rfl ⟨rfl, rfl, rfl⟩ (by rw [← hla]; rfl) rfl hjl Tryd.underlying22 (by kernel_rfl) (by kernel_rfl) (by kernel_rfl) (by kernel_rfl) (fun _ _ _ h => h) rfl hS fun A F => ?_
    refine sd_rng F 5 (cs := [.string ⟨q.nm.toArray⟩, .bool q.open_, .int .i64 q.pa, .int .i64 q.lo, .slice q.bd.la q.bd.xs.length q.bd.lc]) rfl ⟨rfl, rfl, rfl⟩ rfl (by kernel_rfl) (by kernel_rfl) (fun w h => h.2.2) (by kernel_rfl) (by kernel_rfl) (by kernel_rfl) (fun _ _ _ h => h) rfl hS fun A F => ?_
    clear hS
    refine sd_one 6 rfl (by kernel_rfl) rfl ?_
    have HDq := (Cd.held (M.mem.val (k := 3) rfl)).1
    obtain ⟨_, _, _, _, hbq⟩ := held_pc HDq hq
    refine sw_callR (by kernel_rfl) (reached_any _ d q _ ⟨T.below M.st T.1, Nat.lt_of_lt_of_le T.1 M.mem.le, Nat.le_refl _, HDq, hbq⟩ (OKd.fb q (List.mem_of_getElem? hq)).fm (fun q hq => ⟨(OKd.pa q hq).1, (OKd.le q hq).2.2⟩) (OKd.le q (List.mem_of_getElem? hq)).1 ⟨by have := OKd.pa q (List.mem_of_getElem? hq); omega, (OKd.le q (List.mem_of_getElem? hq)).2.1⟩ OKd.np) F ⟨rfl, rfl, rfl⟩ rfl rfl ?_
    rintro _ w2 ⟨⟨v, rfl, hrc⟩, hb⟩
    obtain ⟨xh, hs, rfl, hxk, hxg, hhl, hrh⟩ := hrc (OKd.fb q (List.mem_of_getElem? hq)).gd
    refine ⟨_, rfl, fun A F => ?_⟩
    have hrd2 : w2.rangeAt rb (ro + j * 5) [.string ⟨q.nm.toArray⟩, .bool q.open_, .int .i64 q.pa, .int .i64 q.lo, .slice q.bd.la q.bd.xs.length q.bd.lc] := hrg _ hb
    replace M := M.newbox hb hxg hxk
    clear hb hxg hxk hrd HDp HDq hbq hbd hrg
    have hS : w2.cell? ⟨x4, 0, none⟩ = some (.slice d.ps.la d.ps.xs.length d.ps.lc) ∧ w2.rangeAt x4 0 [.slice d.ps.la d.ps.xs.length d.ps.lc, .slice d.ns.la d.ns.xs.length d.ns.lc] ∧ w2.rangeAt rb (ro + j * 5) [.string ⟨q.nm.toArray⟩, .bool q.open_, .int .i64 q.pa, .int .i64 q.lo, .slice q.bd.la q.bd.xs.length q.bd.lc] := ⟨M.cell 3 rfl rfl, (M.mem.box (k := 3) rfl).1.range, hrd2⟩
    refine sw_end ⟨hS, ?_⟩
    refine sd_move F 7 rfl ⟨rfl, rfl, rfl⟩ rfl (by kernel_rfl) (by kernel_rfl) (by kernel_rfl) (fun _ _ _ h => h) rfl hS fun A F => ?_
    refine sd_extr F 8 rfl ⟨rfl, rfl, rfl⟩ rfl rfl (by kernel_rfl) (by kernel_rfl) (by kernel_rfl) (fun _ _ _ h => h) rfl hS fun A F => ?_
    refine sd_extr F 9 rfl ⟨rfl, rfl, rfl⟩ rfl rfl (by kernel_rfl) (by kernel_rfl) (by kernel_rfl) (fun _ _ _ h => h) rfl hS fun A F => ?_
    refine sd_asg F 10 rfl ⟨rfl, rfl, rfl⟩ rfl (by kernel_rfl) (by kernel_rfl) (by kernel_rfl) (fun _ _ _ h => h) rfl hS fun A F => ?_
    refine sd_asg F 11 rfl ⟨rfl, rfl, rfl⟩ rfl (by kernel_rfl) (by kernel_rfl) (by kernel_rfl) (fun _ _ _ h => h) rfl hS fun A F => ?_
    clear hS hrd2 hla
    refine wpAnyH_done (by kernel_rfl) ?_ _
    show Code.wp _ _ _ _ _
    refine sw_seq ?_
    refine sw_reg ?_
    refine sw_fld F 0 ⟨rfl, rfl, rfl⟩ rfl (by kernel_rfl) rfl rfl fun A F => ?_
    refine sw_cell F M 3 ⟨rfl, rfl, rfl⟩ rfl rfl rfl (by kernel_rfl) rfl fun A F => ?_
    refine sw_move F ⟨rfl, rfl, rfl⟩ rfl rfl fun A F => ?_
    obtain ⟨rb, ro, hla, hrg, hbd⟩ := held_pc (Cd.held (M.mem.val (k := 4) rfl)).1 hq
    obtain ⟨sb, so, hbla, HB⟩ := held_body hbd (fun e => by have := ((OKd.fb q (List.mem_of_getElem? hq)).gd 0 0 .start).1; rw [e] at this; simp at this) (OKd.le q (List.mem_of_getElem? hq)).1
    refine sw_at F 5 (k := j) (n := d.ps.xs.length) (c := d.ps.lc) ⟨rfl, rfl, rfl⟩ (by rw [← hla]; rfl) rfl hjl Tryd.underlying22 (by kernel_rfl) rfl fun A F => ?_
    refine sw_fld F 4 ⟨rfl, rfl, rfl⟩ rfl (by kernel_rfl) rfl rfl fun A F => ?_
    refine sw_ext F (hrg _ (Below.refl _ _) 4 _ rfl) ⟨rfl, rfl, rfl⟩ rfl (by kernel_rfl) rfl fun A F => ?_
    refine sw_move F ⟨rfl, rfl, rfl⟩ rfl rfl fun A F => ?_
    obtain ⟨hh, X⟩ := px_of (OKd.fb q (List.mem_of_getElem? hq)) (fun q hq => (OKd.pa q hq).1) hpl.way
    have hbk := (M.mem.box (k := 0) rfl).1
    have HP := tplain_m (hb := xh) (ho := 0) (hc0 := q.bd.xs.length) (lc := q.bd.lc) (hs := hs) HB X.fb.lds (X.fb.sm OKd.np (OKd.le q (List.mem_of_getElem? hq)).2.1 (OKd.le q (List.mem_of_getElem? hq)).1) hpl hhl (fun v hv => by
     obtain ⟨k, hk⟩ := List.mem_iff_getElem?.1 hv
     have hl := (List.getElem?_eq_some_iff.1 hk).1
     have := hrh k _ (X.hr k (by omega))
     rw [hk] at this
     rw [Option.some.inj this]
     exact (X.low k).1) (fun w' hw k v hv => by
     rw [hw.cell (p := ⟨xh, _, none⟩) hbk.lt, hbk.cell, show 0 + k * 1 = k by omega, ints_get, hv]
     rfl)
    rw [hhl, ← hbla] at HP
    refine sw_callR (by kernel_rfl) HP F ⟨rfl, rfl, rfl⟩ rfl rfl ?_
    rintro _ w ⟨rfl, hb⟩
    refine ⟨_, rfl, fun A F => ?_⟩
    replace M := M.aft hb
    clear hb
    refine sw_not F ⟨rfl, rfl, rfl⟩ rfl rfl fun A F => ?_
    refine sw_end ?_
    show Code.wp _ _ _ _ _
    refine sw_false F rfl ?_
    refine wp_skip ?_
    show Code.wp _ _ _ _ _
    refine sw_reg ?_
    refine sw_move F ⟨rfl, rfl, rfl⟩ rfl rfl fun A F => ?_
    refine sw_add F ⟨rfl, rfl, rfl⟩ rfl rfl (by have := OKd.np; omega) rfl fun A F => ?_
    refine sw_asg F ⟨rfl, rfl, rfl⟩ rfl rfl fun A F => ?_
    refine sw_end ?_
    replace M := M.drop 0 rfl
    show _ ∧ _
    refine ⟨⟨j + 1, by omega, F.keep [6, 11] rfl, M⟩, ?_⟩
    rw [(F.keep (N := 97) (L' := [(11, .int .i64 ((j + 1 : Nat) : Int))]) [11] rfl).2.2 11 (.int .i64 ((j + 1 : Nat) : Int)) rfl, hA11]
    simp only [intOf]
    omega
   ·skip
    refine wp_exit ?_
    repeat (first | refine then_exit ?_ | refine exit_block ?_ | refine exit_pass rfl ?_)
    show Code.wp _ _ _ _ _
    refine sw_seq ?_
    refine sw_reg ?_
    refine sw_asg F ⟨rfl, rfl, rfl⟩ rfl rfl fun A F => ?_
    refine sw_end ?_
    show Code.wp _ _ _ _ _
    refine wp_ret ?_
    repeat (first | refine then_ret ?_ | refine block_ret ?_)
    exact sw_rettmp F Tryd.results3 rfl ⟨rfl, M.st⟩
end Go.Proofs.YtemjajljpoaioaaDoor
