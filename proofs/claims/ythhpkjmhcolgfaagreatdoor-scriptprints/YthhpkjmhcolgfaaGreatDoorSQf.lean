import Derived.Test.YthhpkjmhcolgfaaGreatDoorM28
namespace Go.Proofs.YthhpkjmhcolgfaaGreatDoor
open Go.RowKit
set_option linter.unusedVariables false
set_option linter.unusedSimpArgs false
set_option maxRecDepth 20000
set_option maxHeartbeats 8000000
section
variable {P : Program} {ops : Array Oper} {Q : Exit → Act → World → Prop} {a : Act} {w : World} {rest : List Oper} {o : Oper} {N : Nat} {L : List (Nat × Value)} {i t u : Nat} {x y : Operand}
theorem sw_bne {p q : Bool} (hu : P.underlying t = some .bool) (F : Fm N L a) (h : Is o (some i) (.binOp .neq t x y u)) (h1 : opv L x = some (.bool p)) (h2 : opv L y = some (.bool q)) (hi : Nat.blt i N = true) (K : ∀ a', Fm N ((i, .bool (p != q)) :: L) a' → wpList P ops Q rest a' w) : wpList P ops Q (o :: rest) a w :=
 sw_val F h.1 h.2.2 hi (by
  have e : ∀ d : Nat, (Op.equalIn (d + 1) t (.bool p) (.bool q)).run P w = .ok (p == q) w := fun d => by
   simp [Op.equalIn, run_underlying hu]
  unfold execOp; rw [h.2.1]; simp [F.ev h1, F.ev h2, eqGuard_at_bool, Op.equal, binOp, Op.maxDepth, e 9999]
  cases p <;> cases q <;> rfl) K
end
def leaf4 : List Key := [[115, 101, 108, 102], [99, 97, 108, 108, 101, 114], [118, 97, 108, 117, 101], [104, 101, 105, 103, 104, 116]]
theorem evs_eq (op n : Int) (s : Key) (ar : List XT) : (XT.mk op n s ar).evs = shX op n s (ar.map fun x => (x.op, x.evs)) := by rw [XT.evs, XT.all_map]
theorem snd_evs (ar : List XT) : (ar.map fun x => (x.op, x.evs)).map (·.2) = ar.map XT.evs := by rw [List.map_map]; rfl
section
variable {op n : Int} {s : Key} {ar : List XT}
theorem sh_odd (h : okX op n s ar.length = false) : (XT.mk op n s ar).evs = oddV ++ [] := by rw [evs_eq, shX, List.length_map, if_pos h, List.append_nil]
theorem sh_two {y0 y1 : XT} (ht : isTwo op = true) (hok : okX op n s [y0, y1].length = true) : (XT.mk op n s [y0, y1]).evs = brkV (if holdI op = 4 then 5 else holdI op) y0.op y0.evs ++ (tkn (opWord op) ++ (brkV (holdI op + 1) y1.op y1.evs ++ [])) := by
 rw [evs_eq, shX, List.length_map, if_neg (by rw [hok]; decide), if_pos ht, List.append_nil, List.append_assoc];rfl
theorem sh_go (ht : isTwo op = false) (hok : okX op n s ar.length = true) : (XT.mk op n s ar).evs = (if op = 1 then tkn (digK n.toNat)
 else if op = 2 then tkn (if n = 1 then [116, 114, 117, 101] else [102, 97, 108, 115, 101])
 else if op = 3 then nameV s
 else if op = 4 then nameV s ++ upV ++ tkn [91] ++ ((ar.map fun x => (x.op, x.evs)).map (·.2)).getD 0 [] ++ tkn [93] ++ downV
 else if op = 5 then nameV s ++ argsV (ar.map XT.evs)
 else if op = 8 then upV ++ tkn [110, 111, 116] ++ brkV 3 (((ar.map fun x => (x.op, x.evs)).map (·.1)).getD 0 0) (((ar.map fun x => (x.op, x.evs)).map (·.2)).getD 0 []) ++ downV
 else if op ≤ 23 then tkn (opWord op)
 else tkn (opWord op) ++ argsV (ar.map XT.evs)) := by
 rw [evs_eq, shX, List.length_map, if_neg (by rw [hok]; decide), if_neg (by rw [ht]; decide), snd_evs]
theorem sh_1 (ht : isTwo op = false) (hok : okX op n s ar.length = true) (q : op = 1) : (XT.mk op n s ar).evs = tkn (digK n.toNat) := by rw [sh_go ht hok, if_pos q]
theorem sh_2 {k : Key} (ht : isTwo op = false) (hok : okX op n s ar.length = true) (q : op = 2) (hk : (if n = 1 then [116, 114, 117, 101] else [102, 97, 108, 115, 101]) = k) : (XT.mk op n s ar).evs = tkn k := by rw [sh_go ht hok, if_neg (by omega), if_pos q, hk]
theorem sh_3 (ht : isTwo op = false) (hok : okX op n s ar.length = true) (q : op = 3) : (XT.mk op n s ar).evs = nameV s := by rw [sh_go ht hok, if_neg (by omega), if_neg (by omega), if_pos q]
theorem sh_4 {y : XT} (ht : isTwo op = false) (hok : okX op n s [y].length = true) (q : op = 4) : (XT.mk op n s [y]).evs = nameV s ++ ((upV ++ optV [91]) ++ (y.evs ++ ((optV [93] ++ downV) ++ []))) := by
 rw [sh_go ht hok, if_neg (by omega), if_neg (by omega), if_neg (by omega), if_pos q];simp only [List.append_assoc, List.append_nil];rfl
theorem sh_5 (ht : isTwo op = false) (hok : okX op n s ar.length = true) (q : op = 5) : (XT.mk op n s ar).evs = nameV s ++ (argsV (ar.map XT.evs) ++ []) := by rw [sh_go ht hok, if_neg (by omega), if_neg (by omega), if_neg (by omega), if_neg (by omega), if_pos q, List.append_nil]
theorem sh_8 {y : XT} (ht : isTwo op = false) (hok : okX op n s [y].length = true) (q : op = 8) : (XT.mk op n s [y]).evs = (upV ++ optV []) ++ (tkn [110, 111, 116] ++ (brkV 3 y.op y.evs ++ ((optV [] ++ downV) ++ []))) := by
 rw [sh_go ht hok, if_neg (by omega), if_neg (by omega), if_neg (by omega), if_neg (by omega), if_neg (by omega), if_pos q];simp only [List.append_assoc, List.append_nil];rfl
theorem sh_leaf (ht : isTwo op = false) (hok : okX op n s ar.length = true) (q : 20 ≤ op) (r : op ≤ 23) : (XT.mk op n s ar).evs = tkn (opWord op) := by rw [sh_go ht hok, if_neg (by omega), if_neg (by omega), if_neg (by omega), if_neg (by omega), if_neg (by omega), if_neg (by omega), if_pos r]
theorem sh_of (ht : isTwo op = false) (hok : okX op n s ar.length = true) (q : 23 < op) : (XT.mk op n s ar).evs = tkn (opWord op) ++ (argsV (ar.map XT.evs) ++ []) := by rw [sh_go ht hok, if_neg (by omega), if_neg (by omega), if_neg (by omega), if_neg (by omega), if_neg (by omega), if_neg (by omega), if_neg (by omega), List.append_nil]
theorem ok_lo {k : Nat} (h : op < 1) : okX op n s k = false := by unfold okX; rw [decide_eq_false (by omega)]; simp
theorem ok_hi {k : Nat} (h : 26 < op) : okX op n s k = false := by unfold okX; rw [decide_eq_false (by omega)]; simp
theorem ok_len {k : Nat} (h : (k : Int) ≠ (takesI op k : Int)) : okX op n s k = false := by
 unfold okX;have e : (k == takesI op k) = false := by simp only [beq_eq_false_iff_ne]; omega
 rw [e];simp
theorem emp_nil (s : Key) : s.isEmpty = (s == []) := by cases s <;> rfl
theorem ok_nm {k : Nat} (h : (namedI op != !(s == [])) = true) : okX op n s k = false := by
 unfold okX
 have e : (namedI op == !s.isEmpty) = false := by
  rw [emp_nil];cases hx : (s == []) <;> rw [hx] at h <;> cases hy : namedI op <;> rw [hy] at h <;> first | rfl | cases h
 rw [e];simp
theorem ok_all {k : Nat} (h1 : ¬ op < 1) (h2 : ¬ 26 < op) (h3 : (k : Int) = (takesI op k : Int)) (h4 : (namedI op != !(s == [])) = false) : okX op n s k = rightN op n := by
 unfold okX
 have e : (namedI op == !s.isEmpty) = true := by
  rw [emp_nil];cases hx : (s == []) <;> rw [hx] at h4 <;> cases hy : namedI op <;> rw [hy] at h4 <;> first | rfl | cases h4
 have e2 : (k == takesI op k) = true := by simp only [beq_iff_eq]; omega
 rw [e, e2, decide_eq_true (by omega)];simp
theorem ok_out {k : Nat} (h : okX op n s k = true) : (1 ≤ op ∧ op ≤ 26) ∧ k = takesI op k ∧ (namedI op == !s.isEmpty) = true ∧ rightN op n = true := by
 unfold okX at h;simp only [Bool.and_eq_true, decide_eq_true_eq, beq_iff_eq] at h;exact ⟨h.1.1.1, h.1.1.2, by simpa using h.1.2, h.2⟩
theorem right_num (q : op = 1) (h : rightN op n = true) : 0 ≤ n ∧ n ≤ 1099511627775 := by
 have := of_decide_eq_true h;omega
theorem len_one {α : Type} {l : List α} (h : l.length = 1) : ∃ y, l = [y] := List.length_eq_one_iff.1 h
theorem len_two {α : Type} {l : List α} (h : l.length = 2) : ∃ y z, l = [y, z] := by
 match l, h with
 | [y, z], _ => exact ⟨y, z, rfl⟩
theorem row_at {es : List (List Fld)} {l : List XT} (he : pvRows es = l.map XT.pv) {k : Nat} {d : List Fld} {x : XT} (hd : es[k]? = some d) (hx : l[k]? = some x) : pvAll d = x.pv := by
 have e : (pvRows es)[k]? = (l.map XT.pv)[k]? := by rw [he]
 rw [pvRows_map, List.getElem?_map, List.getElem?_map, hd, hx] at e;injection e
theorem hold_two (h : isTwo op = true) : holdI op ≤ 6 := by
 have := of_decide_eq_true h;unfold holdI;repeat' split
 all_goals omega
end
theorem bare_of (HN : ∀ (w0 : World) (n : Int), 0 ≤ n → n ≤ 1099511627775 → Meth Tryz.prog (Bx w0) (fun _ => False) 180 [.int .i64 n] () fun v _ _ => v = .string (str (digK n.toNat))) (op n : Int) (s : Key) (ar : List XT) (H : ∀ y ∈ ar, BareOk y) : BareOk (.mk op n s ar) := by
 intro b w0 lo fs hp hl;obtain ⟨la, lc, es, rfl, he⟩ := inv_E hp;rw [XT.pvs_map] at he;have hsA := four_of he;have hA : (Fld.l la lc es).lies lo w0 := hl _ (by simp);have har : ar.length = es.length := by rw [← pvRows_len, he, List.length_map]
 intro p ft;refine ⟨by kernel_rfl, fun wO R _ => ?_⟩;have M := pr_begin R;refine sw_fn Tryz.func154 rfl 216 Tryz.ntmps154 rfl fun A F => ?_;refine sq (rg ?_);refine sw_box F M [.int .i64 op, .int .i64 n, .string (str s), .slice la es.length lc] ⟨rfl, rfl, rfl⟩ rfl rfl rfl fun x1 A w F M => ?_;refine en (sq (rg ?_));refine ala F M 0 fun A F=>?_;refine sw_callR (by kernel_rfl) ((rtakes_m _ op n s la lc es).2 _ (Below.refl _ _) (fun _ q => q.elim)) F ⟨rfl, rfl, rfl⟩ rfl rfl ?_;rintro e w1 ⟨v, fs, s', rfl, _, hb1, _, rfl⟩;refine ⟨_, rfl, fun A F => ?_⟩;replace M := M.after2 hb1;refine as1 F fun A F=>?_;refine en ?_;show Code.wp _ _ _ _ _;refine sw_cut (fun A w => Fm 216 [(5, .bool (namedI op)), (4, .int .i64 (takesI op es.length : Int)), (3, ptr x1), (0, ptr b)] A ∧ Mm (PrX b w0) (fun k => k = b) wO [.box x1 [.int .i64 op, .int .i64 n, .string (str s), .slice la es.length lc] 118] p w) ?_ ?_
 ·refine rg ?_;refine fl F 0 fun A F=>?_;refine ce F M 0 fun A F=>?_;refine eqi F fun A F=>?_;refine mv F fun A F=>?_
  cases c2 : (op == 3) with
  | true =>
   rw [c2] at F;have d3 : op = 3 := by simpa using c2
   refine off3 F 3 3 3 fun A F=>?_;refine pkT F fun A F=>?_;refine mv F fun A F=>?_;refine off3 F 8 8 8 fun A F=>?_;refine pkT F fun A F=>?_;refine as1 F fun A F=>?_;refine sw_end ?_;exact ⟨by rw [show namedI op = true from by unfold namedI; first | exact decide_eq_true (by omega) | exact decide_eq_false (by omega) | (rw [Bool.eq_iff_iff]; simp only [decide_eq_true_eq, beq_iff_eq]; omega)]; exact F.keep [5, 4, 3, 0] rfl, M⟩
  | false =>
   rw [c2] at F;have d4 : op ≠ 3 := by simpa using c2
   refine on' F 3 ?_;refine fl F 0 fun A F=>?_;refine on' F 3 ?_;refine ce F M 0 fun A F=>?_;refine on' F 3 ?_;refine eqi F fun A F=>?_;refine pkF F fun A F=>?_;refine mv F fun A F=>?_
   cases c5 : (op == 4) with
   | true =>
    rw [c5] at F;have d6 : op = 4 := by simpa using c5
    refine off3 F 8 8 8 fun A F=>?_;refine pkT F fun A F=>?_;refine as1 F fun A F=>?_;refine sw_end ?_;exact ⟨by rw [show namedI op = true from by unfold namedI; first | exact decide_eq_true (by omega) | exact decide_eq_false (by omega) | (rw [Bool.eq_iff_iff]; simp only [decide_eq_true_eq, beq_iff_eq]; omega)]; exact F.keep [5, 4, 3, 0] rfl, M⟩
   | false =>
    rw [c5] at F;have d7 : op ≠ 4 := by simpa using c5
    refine on' F 8 ?_;refine fl F 0 fun A F=>?_;refine on' F 8 ?_;refine ce F M 0 fun A F=>?_;refine on' F 8 ?_;refine eqi F fun A F=>?_;refine pkF F fun A F=>?_;refine as1 F fun A F=>?_;refine sw_end ?_;exact ⟨by rw [show namedI op = (op == 5) from by unfold namedI; first | exact decide_eq_true (by omega) | exact decide_eq_false (by omega) | (rw [Bool.eq_iff_iff]; simp only [decide_eq_true_eq, beq_iff_eq]; omega)]; exact F.keep [5, 4, 3, 0] rfl, M⟩
 rintro A w ⟨F, M⟩;show Code.wp _ _ _ _ _;refine sw_cut (fun A w => Fm 216 [(6, .bool (rightN op n)), (5, .bool (namedI op)), (4, .int .i64 (takesI op es.length : Int)), (3, ptr x1), (0, ptr b)] A ∧ Mm (PrX b w0) (fun k => k = b) wO [.box x1 [.int .i64 op, .int .i64 n, .string (str s), .slice la es.length lc] 118] p w) ?_ ?_
 ·refine rg ?_;refine fl F 1 fun A F=>?_;refine ce F M 0 fun A F=>?_;refine eqi F fun A F=>?_;refine mv F fun A F=>?_
  cases c8 : (n == 0) with
  | true =>
   rw [c8] at F;have d9 : n = 0 := by simpa using c8
   refine off4 F 3 3 3 3 fun A F=>?_;refine ofu F 7 fun A F=>?_;refine ofu F 7 fun A F=>?_;refine ofu F 7 fun A F=>?_;refine off2 F 3 3 fun A F=>?_;refine ofu F 12 fun A F=>?_;refine ofu F 12 fun A F=>?_;refine ofu F 12 fun A F=>?_;refine off F 3 fun A F=>?_;refine pkT F fun A F=>?_;refine mv F fun A F=>?_;refine off4 F 18 18 18 18 fun A F=>?_;refine ofu F 22 fun A F=>?_;refine ofu F 22 fun A F=>?_;refine ofu F 22 fun A F=>?_;refine off F 18 fun A F=>?_;refine pkT F fun A F=>?_;refine as1 F fun A F=>?_;refine sw_end ?_;exact ⟨by rw [show rightN op n = true from by unfold rightN; first | exact decide_eq_true (by omega) | exact decide_eq_false (by omega) | (rw [Bool.eq_iff_iff]; simp only [decide_eq_true_eq, beq_iff_eq]; omega)]; exact F.keep [6, 5, 4, 3, 0] rfl, M⟩
  | false =>
   rw [c8] at F;have d10 : n ≠ 0 := by simpa using c8
   refine on' F 3 ?_;refine fl F 0 fun A F=>?_;refine on' F 3 ?_;refine ce F M 0 fun A F=>?_;refine on' F 3 ?_;refine eqi F fun A F=>?_;refine on' F 3 ?_;refine mv F fun A F=>?_
   cases c11 : (op == 1) with
   | true =>
    rw [c11] at F;have d12 : op = 1 := by simpa using c11
    refine on' F 7 ?_;refine fl F 1 fun A F=>?_;refine on' F 7 ?_;refine ce F M 0 fun A F=>?_;refine on' F 7 ?_;refine gti F fun A F=>?_;refine on' F 3 ?_;refine pkT F fun A F=>?_;refine on' F 3 ?_;refine mv F fun A F=>?_
    cases c13 : (decide (0 < n)) with
    | true =>
     rw [c13] at F;have d14 := of_decide_eq_true c13;refine on' F 12 ?_;refine fl F 1 fun A F=>?_;refine on' F 12 ?_;refine ce F M 0 fun A F=>?_;refine on' F 12 ?_;refine sw_leq F ⟨rfl, rfl, rfl⟩ rfl rfl rfl fun A F => ?_;refine on' F 3 ?_;refine pkT F fun A F=>?_;refine pkF F fun A F=>?_;refine mv F fun A F=>?_
     cases c15 : (decide (n ≤ 1099511627775)) with
     | true =>
      rw [c15] at F;have d16 := of_decide_eq_true c15;refine off4 F 18 18 18 18 fun A F=>?_;refine ofu F 22 fun A F=>?_;refine ofu F 22 fun A F=>?_;refine ofu F 22 fun A F=>?_;refine off F 18 fun A F=>?_;refine pkT F fun A F=>?_;refine as1 F fun A F=>?_;refine sw_end ?_;exact ⟨by rw [show rightN op n = true from by unfold rightN; first | exact decide_eq_true (by omega) | exact decide_eq_false (by omega) | (rw [Bool.eq_iff_iff]; simp only [decide_eq_true_eq, beq_iff_eq]; omega)]; exact F.keep [6, 5, 4, 3, 0] rfl, M⟩
     | false =>
      rw [c15] at F;have d17 := of_decide_eq_false c15;refine on' F 18 ?_;refine fl F 0 fun A F=>?_;refine on' F 18 ?_;refine ce F M 0 fun A F=>?_;refine on' F 18 ?_;refine eqi F fun A F=>?_;refine on' F 18 ?_;refine mv F fun A F=>?_
      cases c18 : (op == 2) with
      | true =>
       rw [c18] at F;have d19 : op = 2 := by simpa using c18
       refine on' F 22 ?_;refine fl F 1 fun A F=>?_;refine on' F 22 ?_;refine ce F M 0 fun A F=>?_;refine on' F 22 ?_;refine eqi F fun A F=>?_;refine on' F 18 ?_;refine pkT F fun A F=>?_;refine pkF F fun A F=>?_;refine as1 F fun A F=>?_;refine sw_end ?_;exact ⟨by rw [show rightN op n = (n == 1) from by unfold rightN; first | exact decide_eq_true (by omega) | exact decide_eq_false (by omega) | (rw [Bool.eq_iff_iff]; simp only [decide_eq_true_eq, beq_iff_eq]; omega)]; exact F.keep [6, 5, 4, 3, 0] rfl, M⟩
      | false =>
       rw [c18] at F;have d20 : op ≠ 2 := by simpa using c18
       refine off3 F 22 22 22 fun A F=>?_;refine on' F 18 ?_;refine pkF F fun A F=>?_;refine pkF F fun A F=>?_;refine as1 F fun A F=>?_;refine sw_end ?_;exact ⟨by rw [show rightN op n = false from by unfold rightN; first | exact decide_eq_true (by omega) | exact decide_eq_false (by omega) | (rw [Bool.eq_iff_iff]; simp only [decide_eq_true_eq, beq_iff_eq]; omega)]; exact F.keep [6, 5, 4, 3, 0] rfl, M⟩
    | false =>
     rw [c13] at F;have d21 := of_decide_eq_false c13;refine off3 F 12 12 12 fun A F=>?_;refine on' F 3 ?_;refine pkF F fun A F=>?_;refine pkF F fun A F=>?_;refine mv F fun A F=>?_;refine on' F 18 ?_;refine fl F 0 fun A F=>?_;refine on' F 18 ?_;refine ce F M 0 fun A F=>?_;refine on' F 18 ?_;refine eqi F fun A F=>?_;refine on' F 18 ?_;refine mv F fun A F=>?_
     cases c22 : (op == 2) with
     | true =>
      rw [c22] at F;have d23 : op = 2 := by simpa using c22
      refine on' F 22 ?_;refine fl F 1 fun A F=>?_;refine on' F 22 ?_;refine ce F M 0 fun A F=>?_;refine on' F 22 ?_;refine eqi F fun A F=>?_;refine on' F 18 ?_;refine pkT F fun A F=>?_;refine pkF F fun A F=>?_;refine as1 F fun A F=>?_;refine sw_end ?_;exact ⟨by rw [show rightN op n = (n == 1) from by unfold rightN; first | exact decide_eq_true (by omega) | exact decide_eq_false (by omega) | (rw [Bool.eq_iff_iff]; simp only [decide_eq_true_eq, beq_iff_eq]; omega)]; exact F.keep [6, 5, 4, 3, 0] rfl, M⟩
     | false =>
      rw [c22] at F;have d24 : op ≠ 2 := by simpa using c22
      refine off3 F 22 22 22 fun A F=>?_;refine on' F 18 ?_;refine pkF F fun A F=>?_;refine pkF F fun A F=>?_;refine as1 F fun A F=>?_;refine sw_end ?_;exact ⟨by rw [show rightN op n = false from by unfold rightN; first | exact decide_eq_true (by omega) | exact decide_eq_false (by omega) | (rw [Bool.eq_iff_iff]; simp only [decide_eq_true_eq, beq_iff_eq]; omega)]; exact F.keep [6, 5, 4, 3, 0] rfl, M⟩
   | false =>
    rw [c11] at F;have d25 : op ≠ 1 := by simpa using c11
    refine off3 F 7 7 7 fun A F=>?_;refine on' F 3 ?_;refine pkF F fun A F=>?_;refine on' F 3 ?_;refine mv F fun A F=>?_;refine off3 F 12 12 12 fun A F=>?_;refine on' F 3 ?_;refine pkF F fun A F=>?_;refine pkF F fun A F=>?_;refine mv F fun A F=>?_;refine on' F 18 ?_;refine fl F 0 fun A F=>?_;refine on' F 18 ?_;refine ce F M 0 fun A F=>?_;refine on' F 18 ?_;refine eqi F fun A F=>?_;refine on' F 18 ?_;refine mv F fun A F=>?_
    cases c26 : (op == 2) with
    | true =>
     rw [c26] at F;have d27 : op = 2 := by simpa using c26
     refine on' F 22 ?_;refine fl F 1 fun A F=>?_;refine on' F 22 ?_;refine ce F M 0 fun A F=>?_;refine on' F 22 ?_;refine eqi F fun A F=>?_;refine on' F 18 ?_;refine pkT F fun A F=>?_;refine pkF F fun A F=>?_;refine as1 F fun A F=>?_;refine sw_end ?_;exact ⟨by rw [show rightN op n = (n == 1) from by unfold rightN; first | exact decide_eq_true (by omega) | exact decide_eq_false (by omega) | (rw [Bool.eq_iff_iff]; simp only [decide_eq_true_eq, beq_iff_eq]; omega)]; exact F.keep [6, 5, 4, 3, 0] rfl, M⟩
    | false =>
     rw [c26] at F;have d28 : op ≠ 2 := by simpa using c26
     refine off3 F 22 22 22 fun A F=>?_;refine on' F 18 ?_;refine pkF F fun A F=>?_;refine pkF F fun A F=>?_;refine as1 F fun A F=>?_;refine sw_end ?_;exact ⟨by rw [show rightN op n = false from by unfold rightN; first | exact decide_eq_true (by omega) | exact decide_eq_false (by omega) | (rw [Bool.eq_iff_iff]; simp only [decide_eq_true_eq, beq_iff_eq]; omega)]; exact F.keep [6, 5, 4, 3, 0] rfl, M⟩
 rintro A w ⟨F, M⟩;show Code.wp _ _ _ _ _;refine sq ?_;refine sw_cut (fun A w => Fm 216 [(79, .bool (!okX op n s es.length)), (3, ptr x1), (0, ptr b)] A ∧ Mm (PrX b w0) (fun k => k = b) wO [.box x1 [.int .i64 op, .int .i64 n, .string (str s), .slice la es.length lc] 118] p w) ?_ ?_
 ·refine rg ?_;refine fl F 0 fun A F=>?_;refine ce F M 0 fun A F=>?_;refine lsi F fun A F=>?_;refine mv F fun A F=>?_
  cases c29 : (decide (op < 1)) with
  | true =>
   rw [c29] at F;have d30 := of_decide_eq_true c29;refine off3 F 3 3 3 fun A F=>?_;refine pkT F fun A F=>?_;refine mv F fun A F=>?_;refine off4 F 8 8 8 8 fun A F=>?_;refine off F 8 fun A F=>?_;refine pkT F fun A F=>?_;refine mv F fun A F=>?_;refine off4 F 15 15 15 15 fun A F=>?_;refine off F 15 fun A F=>?_;refine pkT F fun A F=>?_;refine mv F fun A F=>?_;refine off2 F 22 22 fun A F=>?_;refine pkT F fun A F=>?_;refine sw_end ?_;exact ⟨by rw [show (!okX op n s es.length) = true by rw [ok_lo d30]; rfl]; exact F.keep [79, 3, 0] rfl, M⟩
  | false =>
   rw [c29] at F;have d31 := of_decide_eq_false c29;refine on' F 3 ?_;refine fl F 0 fun A F=>?_;refine on' F 3 ?_;refine ce F M 0 fun A F=>?_;refine on' F 3 ?_;refine gti F fun A F=>?_;refine pkF F fun A F=>?_;refine mv F fun A F=>?_
   cases c32 : (decide (26 < op)) with
   | true =>
    rw [c32] at F;have d33 := of_decide_eq_true c32;refine off4 F 8 8 8 8 fun A F=>?_;refine off F 8 fun A F=>?_;refine pkT F fun A F=>?_;refine mv F fun A F=>?_;refine off4 F 15 15 15 15 fun A F=>?_;refine off F 15 fun A F=>?_;refine pkT F fun A F=>?_;refine mv F fun A F=>?_;refine off2 F 22 22 fun A F=>?_;refine pkT F fun A F=>?_;refine sw_end ?_;exact ⟨by rw [show (!okX op n s es.length) = true by rw [ok_hi d33]; rfl]; exact F.keep [79, 3, 0] rfl, M⟩
   | false =>
    rw [c32] at F;have d34 := of_decide_eq_false c32;refine on' F 8 ?_;refine fl F 3 fun A F=>?_;refine on' F 8 ?_;refine ce F M 0 fun A F=>?_;refine on' F 8 ?_;refine sw_len F ⟨rfl, rfl, rfl⟩ rfl Tryz.underlying72 rfl fun A F => ?_;refine on' F 8 ?_;refine mv F fun A F=>?_;refine on' F 8 ?_;refine sw_neq F ⟨rfl, rfl, rfl⟩ rfl rfl rfl fun A F => ?_;refine pkF F fun A F=>?_;refine mv F fun A F=>?_
    cases c35 : ((es.length : Int) != (takesI op es.length : Int)) with
    | true =>
     rw [c35] at F;have d36 : (es.length : Int) ≠ (takesI op es.length : Int) := by simpa using c35
     refine off4 F 15 15 15 15 fun A F=>?_;refine off F 15 fun A F=>?_;refine pkT F fun A F=>?_;refine mv F fun A F=>?_;refine off2 F 22 22 fun A F=>?_;refine pkT F fun A F=>?_;refine sw_end ?_;exact ⟨by rw [show (!okX op n s es.length) = true by rw [ok_len d36]; rfl]; exact F.keep [79, 3, 0] rfl, M⟩
    | false =>
     rw [c35] at F;have d37 : (es.length : Int) = (takesI op es.length : Int) := by simpa using c35
     refine on' F 15 ?_;refine mv F fun A F=>?_;refine on' F 15 ?_;refine fl F 2 fun A F=>?_;refine on' F 15 ?_;refine ce F M 0 fun A F=>?_;refine on' F 15 ?_;refine sw_sne F ⟨rfl, rfl, rfl⟩ rfl rfl rfl fun A F => ?_;refine on' F 15 ?_;refine sw_bne Tryz.underlying4 F ⟨rfl, rfl, rfl⟩ rfl rfl rfl fun A F => ?_;refine pkF F fun A F=>?_;refine mv F fun A F=>?_
     cases c38 : ((namedI op) != (!(s == []))) with
     | true =>
      rw [c38] at F;refine off2 F 22 22 fun A F=>?_;refine pkT F fun A F=>?_;refine sw_end ?_;exact ⟨by rw [show (!okX op n s es.length) = true by rw [ok_nm c38]; rfl]; exact F.keep [79, 3, 0] rfl, M⟩
     | false =>
      rw [c38] at F;refine on' F 22 ?_;refine mv F fun A F=>?_;refine on' F 22 ?_;refine sw_not F ⟨rfl, rfl, rfl⟩ rfl rfl fun A F => ?_;refine pkF F fun A F=>?_;refine sw_end ?_;exact ⟨by rw [ok_all d31 d34 d37 c38]; exact F.keep [79, 3, 0] rfl, M⟩
 rintro A w ⟨F, M⟩;show Code.wp _ _ _ _ _;refine cd F (fun hc41=>?_) fun hc41=>?_
 ·have hok : okX op n s es.length = false := by simpa using hc41
  have hE : (XT.mk op n s ar).evs = oddV ++ [] := sh_odd (by rw [har]; exact hok);rw [hE] at ft;rw [hc41] at F;refine sq (rg ?_);refine mv F fun A F=>?_;refine ni F fun A F=>?_;refine fl F 3 fun A F=>?_;refine sw_setX1 F ⟨rfl, rfl, rfl⟩ rfl rfl M.st.1 (by kernel_rfl) rfl rfl rfl fun w B kb => ?_;replace M := M.unit (s' := p.run oddV) B (M.st.set B kb);refine en (wp_ret ?_);repeat first|refine tr ?_|refine br ?_
  exact sw_retnone F Tryz.results154 ⟨_, [], _, rfl, M.but, M.st, lie_nil _ _, by rw [hE]; simp only [PS.run_app, PS.run_nil]⟩
 have hok : okX op n s es.length = true := by simpa using hc41
 obtain ⟨ho1, ho2, ho3, ho4⟩ := ok_out hok;rw [hc41] at F;refine wp_skip ?_;show Code.wp _ _ _ _ _;have hok2 : okX op n s ar.length = true := by rw [har]; exact hok
 have rs : ∀ w, Calls Tryz.prog 178 ([.int .i64 op] : List Value).toArray w _ := fun w => (rsign_m w op).2 w (Below.refl _ _) (fun _ q => q.elim)
 cases ht : isTwo op with
 | true =>
  rw [sg_two ht] at rs;obtain ⟨y0, y1, rfl⟩ : ∃ y z, ar = [y, z] := len_two (by rw [har, ho2]; unfold takesI; rw [if_pos ht]);have hk0 : 0 < es.length := by rw [← har]; simp
  obtain ⟨b0, o0, d0, hla0, hdk0, r0, li0, _⟩ := el_at hA hsA hk0;have hd0 := hsA d0 (List.mem_of_getElem? hdk0);have hp0 : pvAll d0 = y0.pv := row_at he hdk0 rfl;rw [hla0] at M;have hk1 : 1 < es.length := by rw [← har]; simp
  obtain ⟨b1, o1, d1, hla1, hdk1, r1, li1, _⟩ := el_at hA hsA hk1;have hd1 := hsA d1 (List.mem_of_getElem? hdk1);have hp1 : pvAll d1 = y1.pv := row_at he hdk1 rfl;skip;have hla1b : b0 = b1 ∧ o0 = o1 := by rw [hla0] at hla1; injection hla1 with h; injection h with h1 h2; exact ⟨h1, h2⟩
  obtain ⟨rfl, rfl⟩ := hla1b;refine sq (rg ?_);refine fl F 0 fun A F=>?_;refine ce F M 0 fun A F=>?_;refine sw_callR (by kernel_rfl) (rs _) F ⟨rfl, rfl, rfl⟩ rfl rfl ?_;rintro e w1 ⟨v, fs, s', rfl, _, hb1, _, rfl⟩;refine ⟨_, rfl, fun A F => ?_⟩;replace M := M.after2 hb1;refine alo F M [.string ⟨#[]⟩, .int .i64 0, .int .i64 0] fun x42 A w F M=>?_;refine sta F M 0 fun w M=>?_;dsimp only [List.set] at M;refine en (sq (sq (rg ?_)));refine fl F 1 fun A F=>?_;refine ce F M 0 fun A F=>?_;refine gti F fun A F=>?_;refine en ?_;show Code.wp _ _ _ _ _;rw [show decide ((0 : Int) < op) = true from decide_eq_true (by omega)] at F;refine sw_true F rfl ?_;refine sq (rg ?_);refine fl F 2 fun A F=>?_;refine ce F M 0 fun A F=>?_;refine as1 F fun A F=>?_;refine en (sq (sq (rg ?_)));refine mv F fun A F=>?_;refine eqi F fun A F=>?_;refine en (cd F (fun hc43=>?_) fun hc43=>?_)
  ·have hl4 : holdI op = 4 := by simpa using hc43
   have hh := hold_ge op;have hh2 := hold_two ht;have hE : (XT.mk op n s [y0, y1]).evs = brkV 5 y0.op y0.evs ++ (tkn (opWord op) ++ (brkV (holdI op + 1) y1.op y1.evs ++ [])) := (sh_two ht hok2).trans (by rw [if_pos hl4]);rw [hE] at ft;rw [hc43] at F;refine rg ?_;refine as1 F fun A F=>?_;refine en (sq (rg ?_));refine mv F fun A F=>?_;refine fl F 3 fun A F=>?_;refine ce F M 1 fun A F=>?_;refine sw_at (k := 0) F 4 ⟨rfl, rfl, rfl⟩ rfl rfl hk0 Tryz.underlying72 (by kernel_rfl) rfl fun A F => ?_;refine sw_rng F (cs := d0.map Fld.val) (r0 w M.st.2.1) ⟨rfl, rfl, rfl⟩ rfl (by kernel_rfl) (by rw [List.length_map, hd0]; kernel_rfl) rfl fun A F => ?_;refine mv F fun A F=>?_;refine sw_call0 ((expr_of y0 (H y0 (by simp)) b w0 lo d0 5 (by omega) (by omega) hp0 li0) p ft.l) F M ⟨rfl, rfl, rfl⟩ rfl rfl ?_;rintro _ _ A w ⟨_, rfl⟩ F M;replace ft := ft.r;refine en (sq (rg ?_));refine mv F fun A F=>?_;refine fl F 0 fun A F=>?_;refine ce F M 0 fun A F=>?_;refine sw_call0 (rput_m (opWord op) b w0 (p.run (brkV 5 y0.op y0.evs)) ft.l) F M ⟨rfl, rfl, rfl⟩ rfl rfl ?_;rintro _ _ A w ⟨_, rfl⟩ F M;replace ft := ft.r;refine en (sq ?_);refine wp_region_held (S := fun w' => w'.cell? ⟨x1, 3, none⟩ = some (.slice (some ⟨b0, o0, none⟩) es.length lc) ∧ w'.cell? ⟨x42, 2, none⟩ = some (.int .i64 (holdI op)) ∧ Bx w0 () w') (by kernel_rfl) ?_;show wpAnyH _ _ _ _ _ _ _ _ w.drew;replace M := M.drew;have hS : w.drew.cell? ⟨x1, 3, none⟩ = some (.slice (some ⟨b0, o0, none⟩) es.length lc) ∧ w.drew.cell? ⟨x42, 2, none⟩ = some (.int .i64 (holdI op)) ∧ Bx w0 () w.drew := ⟨M.cell 1 rfl rfl, M.cell 0 rfl rfl, M.st.2.1⟩;refine dm F 0 hS fun A F=>?_;refine df F 1 3 hS fun A F=>?_;refine dc F 2 (fun _ h => h.1) hS fun A F=>?_;refine sd_at (k := 1) F 3 4 rfl ⟨rfl, rfl, rfl⟩ rfl rfl hk1 Tryz.underlying72 (by kernel_rfl) (by kernel_rfl) (by kernel_rfl) (by kernel_rfl) (fun _ _ _ h => h) rfl hS fun A F => ?_;refine sd_rng F 4 (cs := d1.map Fld.val) rfl ⟨rfl, rfl, rfl⟩ rfl (by kernel_rfl) (by rw [List.length_map, hd1]; kernel_rfl) (fun w h => r1 w h.2.2) (by kernel_rfl) (by kernel_rfl) (by kernel_rfl) (fun _ _ _ h => h) rfl hS fun A F => ?_;refine df F 5 2 hS fun A F=>?_;refine dc F 6 (fun _ h => h.2.1) hS fun A F=>?_;refine sd_add F 7 rfl ⟨rfl, rfl, rfl⟩ rfl rfl (by omega) (by kernel_rfl) (by kernel_rfl) (by kernel_rfl) (fun _ _ _ h => h) rfl hS fun A F => ?_;clear hS;refine sd_one 8 rfl (by kernel_rfl) rfl ?_;refine sw_call0 ((expr_of y1 (H y1 (by simp)) b w0 lo d1 (holdI op + 1) (by omega) (by omega) hp1 li1) ((p.run (brkV 5 y0.op y0.evs)).run (tkn (opWord op))) ft.l) F M ⟨rfl, rfl, rfl⟩ rfl rfl ?_;rintro _ _ A w ⟨_, rfl⟩ F M;replace ft := ft.r;have hS : w.cell? ⟨x1, 3, none⟩ = some (.slice (some ⟨b0, o0, none⟩) es.length lc) ∧ w.cell? ⟨x42, 2, none⟩ = some (.int .i64 (holdI op)) ∧ Bx w0 () w := ⟨M.cell 1 rfl rfl, M.cell 0 rfl rfl, M.st.2.1⟩;refine sw_end ⟨hS, ?_⟩;clear hS;refine wpAnyH_done (by kernel_rfl) ?_ _;show Code.wp _ _ _ _ _;refine wp_ret ?_;repeat first|refine tr ?_|refine br ?_
   exact sw_retnone F Tryz.results154 ⟨_, [], _, rfl, M.but, M.st, lie_nil _ _, by rw [hE]; simp only [PS.run_app, PS.run_nil]⟩
  have hl4 : holdI op ≠ 4 := by simpa using hc43
  have hh := hold_ge op;have hh2 := hold_two ht;have hE : (XT.mk op n s [y0, y1]).evs = brkV (holdI op) y0.op y0.evs ++ (tkn (opWord op) ++ (brkV (holdI op + 1) y1.op y1.evs ++ [])) := (sh_two ht hok2).trans (by rw [if_neg hl4]);rw [hE] at ft;rw [hc43] at F;refine wp_skip (sq (rg ?_));refine mv F fun A F=>?_;refine fl F 3 fun A F=>?_;refine ce F M 1 fun A F=>?_;refine sw_at (k := 0) F 4 ⟨rfl, rfl, rfl⟩ rfl rfl hk0 Tryz.underlying72 (by kernel_rfl) rfl fun A F => ?_;refine sw_rng F (cs := d0.map Fld.val) (r0 w M.st.2.1) ⟨rfl, rfl, rfl⟩ rfl (by kernel_rfl) (by rw [List.length_map, hd0]; kernel_rfl) rfl fun A F => ?_;refine mv F fun A F=>?_;refine sw_call0 ((expr_of y0 (H y0 (by simp)) b w0 lo d0 (holdI op) (by omega) (by omega) hp0 li0) p ft.l) F M ⟨rfl, rfl, rfl⟩ rfl rfl ?_;rintro _ _ A w ⟨_, rfl⟩ F M;replace ft := ft.r;refine en (sq (rg ?_));refine mv F fun A F=>?_;refine fl F 0 fun A F=>?_;refine ce F M 0 fun A F=>?_;refine sw_call0 (rput_m (opWord op) b w0 (p.run (brkV (holdI op) y0.op y0.evs)) ft.l) F M ⟨rfl, rfl, rfl⟩ rfl rfl ?_;rintro _ _ A w ⟨_, rfl⟩ F M;replace ft := ft.r;refine en (sq ?_);refine wp_region_held (S := fun w' => w'.cell? ⟨x1, 3, none⟩ = some (.slice (some ⟨b0, o0, none⟩) es.length lc) ∧ w'.cell? ⟨x42, 2, none⟩ = some (.int .i64 (holdI op)) ∧ Bx w0 () w') (by kernel_rfl) ?_;show wpAnyH _ _ _ _ _ _ _ _ w.drew;replace M := M.drew;have hS : w.drew.cell? ⟨x1, 3, none⟩ = some (.slice (some ⟨b0, o0, none⟩) es.length lc) ∧ w.drew.cell? ⟨x42, 2, none⟩ = some (.int .i64 (holdI op)) ∧ Bx w0 () w.drew := ⟨M.cell 1 rfl rfl, M.cell 0 rfl rfl, M.st.2.1⟩;refine dm F 0 hS fun A F=>?_;refine df F 1 3 hS fun A F=>?_;refine dc F 2 (fun _ h => h.1) hS fun A F=>?_;refine sd_at (k := 1) F 3 4 rfl ⟨rfl, rfl, rfl⟩ rfl rfl hk1 Tryz.underlying72 (by kernel_rfl) (by kernel_rfl) (by kernel_rfl) (by kernel_rfl) (fun _ _ _ h => h) rfl hS fun A F => ?_;refine sd_rng F 4 (cs := d1.map Fld.val) rfl ⟨rfl, rfl, rfl⟩ rfl (by kernel_rfl) (by rw [List.length_map, hd1]; kernel_rfl) (fun w h => r1 w h.2.2) (by kernel_rfl) (by kernel_rfl) (by kernel_rfl) (fun _ _ _ h => h) rfl hS fun A F => ?_;refine df F 5 2 hS fun A F=>?_;refine dc F 6 (fun _ h => h.2.1) hS fun A F=>?_;refine sd_add F 7 rfl ⟨rfl, rfl, rfl⟩ rfl rfl (by omega) (by kernel_rfl) (by kernel_rfl) (by kernel_rfl) (fun _ _ _ h => h) rfl hS fun A F => ?_;clear hS;refine sd_one 8 rfl (by kernel_rfl) rfl ?_;refine sw_call0 ((expr_of y1 (H y1 (by simp)) b w0 lo d1 (holdI op + 1) (by omega) (by omega) hp1 li1) ((p.run (brkV (holdI op) y0.op y0.evs)).run (tkn (opWord op))) ft.l) F M ⟨rfl, rfl, rfl⟩ rfl rfl ?_;rintro _ _ A w ⟨_, rfl⟩ F M;replace ft := ft.r;have hS : w.cell? ⟨x1, 3, none⟩ = some (.slice (some ⟨b0, o0, none⟩) es.length lc) ∧ w.cell? ⟨x42, 2, none⟩ = some (.int .i64 (holdI op)) ∧ Bx w0 () w := ⟨M.cell 1 rfl rfl, M.cell 0 rfl rfl, M.st.2.1⟩;refine sw_end ⟨hS, ?_⟩;clear hS;refine wpAnyH_done (by kernel_rfl) ?_ _;show Code.wp _ _ _ _ _;refine wp_ret ?_;repeat first|refine tr ?_|refine br ?_
  exact sw_retnone F Tryz.results154 ⟨_, [], _, rfl, M.but, M.st, lie_nil _ _, by rw [hE]; simp only [PS.run_app, PS.run_nil]⟩
 | false =>
  rw [sg_no ht] at rs;refine sq (rg ?_);refine fl F 0 fun A F=>?_;refine ce F M 0 fun A F=>?_;refine sw_callR (by kernel_rfl) (rs _) F ⟨rfl, rfl, rfl⟩ rfl rfl ?_;rintro e w1 ⟨v, fs, s', rfl, _, hb1, _, rfl⟩;refine ⟨_, rfl, fun A F => ?_⟩;replace M := M.after2 hb1;refine alo F M [.string ⟨#[]⟩, .int .i64 0, .int .i64 0] fun x44 A w F M=>?_;refine sta F M 0 fun w M=>?_;dsimp only [List.set] at M;refine en (sq (sq (rg ?_)));refine fl F 1 fun A F=>?_;refine ce F M 0 fun A F=>?_;refine gti F fun A F=>?_;refine en ?_;show Code.wp _ _ _ _ _;rw [show decide ((0 : Int) < 0) = false from rfl] at F;refine sw_false F rfl ?_;refine wp_skip (sq (rg ?_));refine sw_mkrow (ety := 9) (sz := 1) (z := .string ⟨#[]⟩) F M _ (leaf4.map fun s => [Fld.s s]) ⟨rfl, rfl, rfl⟩ rfl (by kernel_rfl) (by kernel_rfl) rfl (by kernel_rfl) rfl ?_ ?_ rfl fun x A w F M => ?_
  ·intro g hg;obtain ⟨s, _, rfl⟩ := List.mem_map.1 hg;exact ⟨rfl, lie_cons trivial (lie_nil _ _)⟩
  ·intro i f b hf hm g hg;obtain ⟨s, _, rfl⟩ := List.mem_map.1 hg;intro y hy;rw [List.mem_singleton.1 hy];trivial
  refine as1 F fun A F=>?_;refine en (sq (rg ?_));refine fl F 0 fun A F=>?_;refine ce F M 2 fun A F=>?_;refine en (wp_block ?_);refine sq (rg ?_);refine eqi F fun A F=>?_;refine as1 F fun A F=>?_;refine en (cd F (fun hc45=>?_) fun hc45=>?_)
  ·have q1 : op = 1 := by simpa using hc45
   have hE : (XT.mk op n s ar).evs = tkn (digK n.toNat) ++ [] := by rw [List.append_nil]; exact sh_1 ht hok2 q1
   rw [hE] at ft;have hn01 := right_num q1 ho4;rw [hc45] at F;refine sq (rg ?_);refine fl F 1 fun A F=>?_;refine ce F M 2 fun A F=>?_;refine sw_callR (by kernel_rfl) ((HN _ n (by omega) (by omega)).2 _ (Below.refl _ _) (fun _ q => q.elim)) F ⟨rfl, rfl, rfl⟩ rfl rfl ?_;rintro e w1 ⟨v, fs, s', rfl, _, hb1, _, rfl⟩;refine ⟨_, rfl, fun A F => ?_⟩;replace M := M.after2 hb1;refine as1 F fun A F=>?_;refine en (rg ?_);refine mv F fun A F=>?_;refine mv F fun A F=>?_;refine sw_call0 (rput_m (digK n.toNat) b w0 p ft.l) F M ⟨rfl, rfl, rfl⟩ rfl rfl ?_;rintro _ _ A w ⟨_, rfl⟩ F M;replace ft := ft.r;refine sw_end ?_;repeat first|refine tn ?_|refine bn ?_
   exact sw_endnone F Tryz.results154 (ze M (by rw [hE]; simp only [PS.run_app, PS.run_nil]))
  have q1 : op ≠ 1 := by simpa using hc45
  rw [hc45] at F;refine sq (rg ?_);refine eqi F fun A F=>?_;refine as1 F fun A F=>?_;refine en (cd F (fun hc46=>?_) fun hc46=>?_)
  ·have q2 : op = 2 := by simpa using hc46
   rw [hc46] at F;refine sq (rg ?_);refine fl F 1 fun A F=>?_;refine ce F M 2 fun A F=>?_;refine eqi F fun A F=>?_;refine en (cd F (fun hc47=>?_) fun hc47=>?_)
   ·have qn : n = 1 := by simpa using hc47
    have hE : (XT.mk op n s ar).evs = tkn [116, 114, 117, 101] ++ [] := by rw [List.append_nil]; exact sh_2 ht hok2 q2 (by rw [if_pos qn])
    rw [hE] at ft;rw [hc47] at F;refine rg ?_;refine mv F fun A F=>?_;refine sw_call0 (rput_m [116, 114, 117, 101] b w0 p ft.l) F M ⟨rfl, rfl, rfl⟩ rfl rfl ?_;rintro _ _ A w ⟨_, rfl⟩ F M;replace ft := ft.r;refine sw_end ?_;repeat first|refine tn ?_|refine bn ?_
    exact sw_endnone F Tryz.results154 (ze M (by rw [hE]; simp only [PS.run_app, PS.run_nil]))
   have qn : n ≠ 1 := by simpa using hc47
   have hE : (XT.mk op n s ar).evs = tkn [102, 97, 108, 115, 101] ++ [] := by rw [List.append_nil]; exact sh_2 ht hok2 q2 (by rw [if_neg qn])
   rw [hE] at ft;rw [hc47] at F;refine rg ?_;refine mv F fun A F=>?_;refine sw_call0 (rput_m [102, 97, 108, 115, 101] b w0 p ft.l) F M ⟨rfl, rfl, rfl⟩ rfl rfl ?_;rintro _ _ A w ⟨_, rfl⟩ F M;replace ft := ft.r;refine sw_end ?_;repeat first|refine tn ?_|refine bn ?_
   exact sw_endnone F Tryz.results154 (ze M (by rw [hE]; simp only [PS.run_app, PS.run_nil]))
  have q2 : op ≠ 2 := by simpa using hc46
  rw [hc46] at F;refine sq (rg ?_);refine eqi F fun A F=>?_;refine as1 F fun A F=>?_;refine en (cd F (fun hc48=>?_) fun hc48=>?_)
  ·have q3 : op = 3 := by simpa using hc48
   have hE : (XT.mk op n s ar).evs = nameV s ++ [] := by rw [List.append_nil]; exact sh_3 ht hok2 q3
   rw [hE] at ft;rw [hc48] at F;refine rg ?_;refine mv F fun A F=>?_;refine fl F 2 fun A F=>?_;refine ce F M 2 fun A F=>?_;refine sw_call0 (rnm_m s b w0 p ft.l) F M ⟨rfl, rfl, rfl⟩ rfl rfl ?_;rintro _ _ A w ⟨_, rfl⟩ F M;replace ft := ft.r;refine sw_end ?_;repeat first|refine tn ?_|refine bn ?_
   exact sw_endnone F Tryz.results154 (ze M (by rw [hE]; simp only [PS.run_app, PS.run_nil]))
  have q3 : op ≠ 3 := by simpa using hc48
  rw [hc48] at F;refine sq (rg ?_);refine eqi F fun A F=>?_;refine as1 F fun A F=>?_;refine en (cd F (fun hc49=>?_) fun hc49=>?_)
  ·have q4 : op = 4 := by simpa using hc49
   obtain ⟨y0, rfl⟩ : ∃ y, ar = [y] := len_one (by rw [har, ho2]; unfold takesI; rw [ht, if_neg Bool.false_ne_true, if_pos (by omega)]);have hk0 : 0 < es.length := by rw [← har]; simp
   obtain ⟨b0, o0, d0, hla0, hdk0, r0, li0, _⟩ := el_at hA hsA hk0;have hd0 := hsA d0 (List.mem_of_getElem? hdk0);have hp0 : pvAll d0 = y0.pv := row_at he hdk0 rfl;rw [hla0] at M;have hE : (XT.mk op n s [y0]).evs = nameV s ++ ((upV ++ optV [91]) ++ (brkV 1 y0.op y0.evs ++ ((optV [93] ++ downV) ++ []))) := by rw [brk_one]; exact sh_4 ht hok2 q4
   rw [hE] at ft;rw [hc49] at F;refine sq (rg ?_);refine mv F fun A F=>?_;refine fl F 2 fun A F=>?_;refine ce F M 2 fun A F=>?_;refine sw_call0 (rnm_m s b w0 p ft.l) F M ⟨rfl, rfl, rfl⟩ rfl rfl ?_;rintro _ _ A w ⟨_, rfl⟩ F M;replace ft := ft.r;refine en (sq (rg ?_));refine mv F fun A F=>?_;refine sw_call0 (ropn_m [91] b w0 (p.run (nameV s)) ft.l) F M ⟨rfl, rfl, rfl⟩ rfl rfl ?_;rintro _ _ A w ⟨_, rfl⟩ F M;replace ft := ft.r;refine en (sq (rg ?_));refine mv F fun A F=>?_;refine fl F 3 fun A F=>?_;refine ce F M 2 fun A F=>?_;refine sw_at (k := 0) F 4 ⟨rfl, rfl, rfl⟩ rfl rfl hk0 Tryz.underlying72 (by kernel_rfl) rfl fun A F => ?_;refine sw_rng F (cs := d0.map Fld.val) (r0 w M.st.2.1) ⟨rfl, rfl, rfl⟩ rfl (by kernel_rfl) (by rw [List.length_map, hd0]; kernel_rfl) rfl fun A F => ?_;refine sw_call0 ((expr_of y0 (H y0 (by simp)) b w0 lo d0 1 (by omega) (by omega) hp0 li0) ((p.run (nameV s)).run (upV ++ optV [91])) ft.l) F M ⟨rfl, rfl, rfl⟩ rfl rfl ?_;rintro _ _ A w ⟨_, rfl⟩ F M;replace ft := ft.r;refine en (rg ?_);refine mv F fun A F=>?_;refine sw_call0 (rsht_m [93] b w0 (((p.run (nameV s)).run (upV ++ optV [91])).run (brkV 1 y0.op y0.evs)) ft.l) F M ⟨rfl, rfl, rfl⟩ rfl rfl ?_;rintro _ _ A w ⟨_, rfl⟩ F M;replace ft := ft.r;refine sw_end ?_;repeat first|refine tn ?_|refine bn ?_
   exact sw_endnone F Tryz.results154 (ze M (by rw [hE]; simp only [PS.run_app, PS.run_nil]))
  have q4 : op ≠ 4 := by simpa using hc49
  rw [hc49] at F;refine sq (rg ?_);refine eqi F fun A F=>?_;refine as1 F fun A F=>?_;refine en (cd F (fun hc50=>?_) fun hc50=>?_)
  ·have q5 : op = 5 := by simpa using hc50
   have hE : (XT.mk op n s ar).evs = nameV s ++ (argsV (ar.map XT.evs) ++ []) := sh_5 ht hok2 q5;rw [hE] at ft;rw [hc50] at F;refine sq (rg ?_);refine mv F fun A F=>?_;refine fl F 2 fun A F=>?_;refine ce F M 2 fun A F=>?_;refine sw_call0 (rnm_m s b w0 p ft.l) F M ⟨rfl, rfl, rfl⟩ rfl rfl ?_;rintro _ _ A w ⟨_, rfl⟩ F M;replace ft := ft.r;refine en (rg ?_);refine mv F fun A F=>?_;refine fl F 3 fun A F=>?_;refine ce F M 2 fun A F=>?_;refine sw_call0 ((args_of ar H b w0 lo la lc es he hA) (p.run (nameV s)) ft.l) F M ⟨rfl, rfl, rfl⟩ rfl rfl ?_;rintro _ _ A w ⟨_, rfl⟩ F M;replace ft := ft.r;refine sw_end ?_;repeat first|refine tn ?_|refine bn ?_
   exact sw_endnone F Tryz.results154 (ze M (by rw [hE]; simp only [PS.run_app, PS.run_nil]))
  have q5 : op ≠ 5 := by simpa using hc50
  rw [hc50] at F;refine sq (rg ?_);refine eqi F fun A F=>?_;refine as1 F fun A F=>?_;refine en (cd F (fun hc51=>?_) fun hc51=>?_)
  ·have q8 : op = 8 := by simpa using hc51
   obtain ⟨y0, rfl⟩ : ∃ y, ar = [y] := len_one (by rw [har, ho2]; unfold takesI; rw [ht, if_neg Bool.false_ne_true, if_pos (by omega)]);have hk0 : 0 < es.length := by rw [← har]; simp
   obtain ⟨b0, o0, d0, hla0, hdk0, r0, li0, _⟩ := el_at hA hsA hk0;have hd0 := hsA d0 (List.mem_of_getElem? hdk0);have hp0 : pvAll d0 = y0.pv := row_at he hdk0 rfl;rw [hla0] at M;have hE : (XT.mk op n s [y0]).evs = (upV ++ optV []) ++ (tkn [110, 111, 116] ++ (brkV 3 y0.op y0.evs ++ ((optV [] ++ downV) ++ []))) := sh_8 ht hok2 q8;rw [hE] at ft;rw [hc51] at F;refine sq (rg ?_);refine mv F fun A F=>?_;refine sw_call0 (ropn_m [] b w0 p ft.l) F M ⟨rfl, rfl, rfl⟩ rfl rfl ?_;rintro _ _ A w ⟨_, rfl⟩ F M;replace ft := ft.r;refine en (sq (rg ?_));refine mv F fun A F=>?_;refine sw_call0 (rput_m [110, 111, 116] b w0 (p.run (upV ++ optV [])) ft.l) F M ⟨rfl, rfl, rfl⟩ rfl rfl ?_;rintro _ _ A w ⟨_, rfl⟩ F M;replace ft := ft.r;refine en (sq (rg ?_));refine mv F fun A F=>?_;refine fl F 3 fun A F=>?_;refine ce F M 2 fun A F=>?_;refine sw_at (k := 0) F 4 ⟨rfl, rfl, rfl⟩ rfl rfl hk0 Tryz.underlying72 (by kernel_rfl) rfl fun A F => ?_;refine sw_rng F (cs := d0.map Fld.val) (r0 w M.st.2.1) ⟨rfl, rfl, rfl⟩ rfl (by kernel_rfl) (by rw [List.length_map, hd0]; kernel_rfl) rfl fun A F => ?_;refine sw_call0 ((expr_of y0 (H y0 (by simp)) b w0 lo d0 3 (by omega) (by omega) hp0 li0) ((p.run (upV ++ optV [])).run (tkn [110, 111, 116])) ft.l) F M ⟨rfl, rfl, rfl⟩ rfl rfl ?_;rintro _ _ A w ⟨_, rfl⟩ F M;replace ft := ft.r;refine en (rg ?_);refine mv F fun A F=>?_;refine sw_call0 (rsht_m [] b w0 (((p.run (upV ++ optV [])).run (tkn [110, 111, 116])).run (brkV 3 y0.op y0.evs)) ft.l) F M ⟨rfl, rfl, rfl⟩ rfl rfl ?_;rintro _ _ A w ⟨_, rfl⟩ F M;replace ft := ft.r;refine sw_end ?_;repeat first|refine tn ?_|refine bn ?_
   exact sw_endnone F Tryz.results154 (ze M (by rw [hE]; simp only [PS.run_app, PS.run_nil]))
  have q8 : op ≠ 8 := by simpa using hc51
  rw [hc51] at F;refine sq (sq (rg ?_));refine eqi F fun A F=>?_;refine as1 F fun A F=>?_;refine en (cd F (fun hc52=>?_) fun hc52=>?_)
  ·have q20 : op = 20 := by simpa using hc52
   have hE : (XT.mk op n s ar).evs = tkn (opWord op) ++ [] := by rw [List.append_nil]; exact sh_leaf ht hok2 (by omega) (by omega)
   rw [hE] at ft;rw [hc52] at F;refine wp_skip (sw_true F rfl ?_);refine rg ?_;refine mv F fun A F=>?_;refine mv F fun A F=>?_;refine fl F 0 fun A F=>?_;refine ce F M 2 fun A F=>?_;refine sw_sub F ⟨rfl, rfl, rfl⟩ rfl rfl (by omega) rfl fun A F => ?_;have hk0 : ((op - 20).toNat : Int) = op - 20 := by omega
   rw [← hk0] at F;refine sw_at F 1 ⟨rfl, rfl, rfl⟩ rfl rfl (by omega) Tryz.underlying38 (by kernel_rfl) rfl fun A F => ?_
   have hcell : w.cell? ⟨x, 0 + (op - 20).toNat * 1, none⟩ = some (.string (str (opWord op))) := by
    obtain ⟨_, _, _, hat⟩ := (M.mem.at_ 0 _ rfl : RowG _ _ _ _ _ _).at_
    have := hat (op - 20).toNat (.string (str (opWord op))) (by
     rcases (show op = 20 ∨ op = 21 ∨ op = 22 ∨ op = 23 by omega) with rfl | rfl | rfl | rfl <;> rfl)
    rw [Nat.zero_add, Nat.mul_one]; exact this
   refine sw_ext F hcell ⟨rfl, rfl, rfl⟩ rfl (by kernel_rfl) rfl fun A F => ?_;refine sw_call0 (rput_m (opWord op) b w0 p ft.l) F M ⟨rfl, rfl, rfl⟩ rfl rfl ?_;rintro _ _ A w ⟨_, rfl⟩ F M;replace ft := ft.r;refine sw_end ?_;repeat first|refine tn ?_|refine bn ?_
   exact sw_endnone F Tryz.results154 (ze M (by rw [hE]; simp only [PS.run_app, PS.run_nil]))
  have q20 : op ≠ 20 := by simpa using hc52
  rw [hc52] at F;refine sq (rg ?_);refine eqi F fun A F=>?_;refine as1 F fun A F=>?_;refine en (cd F (fun hc53=>?_) fun hc53=>?_)
  ·have q21 : op = 21 := by simpa using hc53
   have hE : (XT.mk op n s ar).evs = tkn (opWord op) ++ [] := by rw [List.append_nil]; exact sh_leaf ht hok2 (by omega) (by omega)
   rw [hE] at ft;rw [hc53] at F;refine wp_skip (sw_true F rfl ?_);refine rg ?_;refine mv F fun A F=>?_;refine mv F fun A F=>?_;refine fl F 0 fun A F=>?_;refine ce F M 2 fun A F=>?_;refine sw_sub F ⟨rfl, rfl, rfl⟩ rfl rfl (by omega) rfl fun A F => ?_;have hk0 : ((op - 20).toNat : Int) = op - 20 := by omega
   rw [← hk0] at F;refine sw_at F 1 ⟨rfl, rfl, rfl⟩ rfl rfl (by omega) Tryz.underlying38 (by kernel_rfl) rfl fun A F => ?_
   have hcell : w.cell? ⟨x, 0 + (op - 20).toNat * 1, none⟩ = some (.string (str (opWord op))) := by
    obtain ⟨_, _, _, hat⟩ := (M.mem.at_ 0 _ rfl : RowG _ _ _ _ _ _).at_
    have := hat (op - 20).toNat (.string (str (opWord op))) (by
     rcases (show op = 20 ∨ op = 21 ∨ op = 22 ∨ op = 23 by omega) with rfl | rfl | rfl | rfl <;> rfl)
    rw [Nat.zero_add, Nat.mul_one]; exact this
   refine sw_ext F hcell ⟨rfl, rfl, rfl⟩ rfl (by kernel_rfl) rfl fun A F => ?_;refine sw_call0 (rput_m (opWord op) b w0 p ft.l) F M ⟨rfl, rfl, rfl⟩ rfl rfl ?_;rintro _ _ A w ⟨_, rfl⟩ F M;replace ft := ft.r;refine sw_end ?_;repeat first|refine tn ?_|refine bn ?_
   exact sw_endnone F Tryz.results154 (ze M (by rw [hE]; simp only [PS.run_app, PS.run_nil]))
  have q21 : op ≠ 21 := by simpa using hc53
  rw [hc53] at F;refine sq (rg ?_);refine eqi F fun A F=>?_;refine as1 F fun A F=>?_;refine en (cd F (fun hc54=>?_) fun hc54=>?_)
  ·have q22 : op = 22 := by simpa using hc54
   have hE : (XT.mk op n s ar).evs = tkn (opWord op) ++ [] := by rw [List.append_nil]; exact sh_leaf ht hok2 (by omega) (by omega)
   rw [hE] at ft;rw [hc54] at F;refine wp_skip (sw_true F rfl ?_);refine rg ?_;refine mv F fun A F=>?_;refine mv F fun A F=>?_;refine fl F 0 fun A F=>?_;refine ce F M 2 fun A F=>?_;refine sw_sub F ⟨rfl, rfl, rfl⟩ rfl rfl (by omega) rfl fun A F => ?_;have hk0 : ((op - 20).toNat : Int) = op - 20 := by omega
   rw [← hk0] at F;refine sw_at F 1 ⟨rfl, rfl, rfl⟩ rfl rfl (by omega) Tryz.underlying38 (by kernel_rfl) rfl fun A F => ?_
   have hcell : w.cell? ⟨x, 0 + (op - 20).toNat * 1, none⟩ = some (.string (str (opWord op))) := by
    obtain ⟨_, _, _, hat⟩ := (M.mem.at_ 0 _ rfl : RowG _ _ _ _ _ _).at_
    have := hat (op - 20).toNat (.string (str (opWord op))) (by
     rcases (show op = 20 ∨ op = 21 ∨ op = 22 ∨ op = 23 by omega) with rfl | rfl | rfl | rfl <;> rfl)
    rw [Nat.zero_add, Nat.mul_one]; exact this
   refine sw_ext F hcell ⟨rfl, rfl, rfl⟩ rfl (by kernel_rfl) rfl fun A F => ?_;refine sw_call0 (rput_m (opWord op) b w0 p ft.l) F M ⟨rfl, rfl, rfl⟩ rfl rfl ?_;rintro _ _ A w ⟨_, rfl⟩ F M;replace ft := ft.r;refine sw_end ?_;repeat first|refine tn ?_|refine bn ?_
   exact sw_endnone F Tryz.results154 (ze M (by rw [hE]; simp only [PS.run_app, PS.run_nil]))
  have q22 : op ≠ 22 := by simpa using hc54
  rw [hc54] at F;refine rg ?_;refine eqi F fun A F=>?_;refine as1 F fun A F=>?_;refine en (cd F (fun hc55=>?_) fun hc55=>?_)
  ·have q23 : op = 23 := by simpa using hc55
   have hE : (XT.mk op n s ar).evs = tkn (opWord op) ++ [] := by rw [List.append_nil]; exact sh_leaf ht hok2 (by omega) (by omega)
   rw [hE] at ft;rw [hc55] at F;refine rg ?_;refine mv F fun A F=>?_;refine mv F fun A F=>?_;refine fl F 0 fun A F=>?_;refine ce F M 2 fun A F=>?_;refine sw_sub F ⟨rfl, rfl, rfl⟩ rfl rfl (by omega) rfl fun A F => ?_;have hk0 : ((op - 20).toNat : Int) = op - 20 := by omega
   rw [← hk0] at F;refine sw_at F 1 ⟨rfl, rfl, rfl⟩ rfl rfl (by omega) Tryz.underlying38 (by kernel_rfl) rfl fun A F => ?_
   have hcell : w.cell? ⟨x, 0 + (op - 20).toNat * 1, none⟩ = some (.string (str (opWord op))) := by
    obtain ⟨_, _, _, hat⟩ := (M.mem.at_ 0 _ rfl : RowG _ _ _ _ _ _).at_
    have := hat (op - 20).toNat (.string (str (opWord op))) (by
     rcases (show op = 20 ∨ op = 21 ∨ op = 22 ∨ op = 23 by omega) with rfl | rfl | rfl | rfl <;> rfl)
    rw [Nat.zero_add, Nat.mul_one]; exact this
   refine sw_ext F hcell ⟨rfl, rfl, rfl⟩ rfl (by kernel_rfl) rfl fun A F => ?_;refine sw_call0 (rput_m (opWord op) b w0 p ft.l) F M ⟨rfl, rfl, rfl⟩ rfl rfl ?_;rintro _ _ A w ⟨_, rfl⟩ F M;replace ft := ft.r;refine sw_end ?_;repeat first|refine tn ?_|refine bn ?_
   exact sw_endnone F Tryz.results154 (ze M (by rw [hE]; simp only [PS.run_app, PS.run_nil]))
  have q23 : op ≠ 23 := by simpa using hc55
  rw [hc55] at F;refine sq (rg ?_);refine eqi F fun A F=>?_;refine as1 F fun A F=>?_;refine en (cd F (fun hc56=>?_) fun hc56=>?_)
  ·have q24 : op = 24 := by simpa using hc56
   have hE : (XT.mk op n s ar).evs = tkn [98, 97, 108, 97, 110, 99, 101] ++ (argsV (ar.map XT.evs) ++ []) := by subst q24; exact sh_of ht hok2 (by omega)
   rw [hE] at ft;rw [hc56] at F;refine sq (rg ?_);refine mv F fun A F=>?_;refine sw_call0 (rput_m [98, 97, 108, 97, 110, 99, 101] b w0 p ft.l) F M ⟨rfl, rfl, rfl⟩ rfl rfl ?_;rintro _ _ A w ⟨_, rfl⟩ F M;replace ft := ft.r;refine en (rg ?_);refine mv F fun A F=>?_;refine fl F 3 fun A F=>?_;refine ce F M 2 fun A F=>?_;refine sw_call0 ((args_of ar H b w0 lo la lc es he hA) (p.run (tkn [98, 97, 108, 97, 110, 99, 101])) ft.l) F M ⟨rfl, rfl, rfl⟩ rfl rfl ?_;rintro _ _ A w ⟨_, rfl⟩ F M;replace ft := ft.r;refine sw_end ?_;repeat first|refine tn ?_|refine bn ?_
   exact sw_endnone F Tryz.results154 (ze M (by rw [hE]; simp only [PS.run_app, PS.run_nil]))
  have q24 : op ≠ 24 := by simpa using hc56
  rw [hc56] at F;refine sq (rg ?_);refine eqi F fun A F=>?_;refine as1 F fun A F=>?_;refine en (cd F (fun hc57=>?_) fun hc57=>?_)
  ·have q25 : op = 25 := by simpa using hc57
   have hE : (XT.mk op n s ar).evs = tkn [119, 104, 111] ++ (argsV (ar.map XT.evs) ++ []) := by subst q25; exact sh_of ht hok2 (by omega)
   rw [hE] at ft;rw [hc57] at F;refine sq (rg ?_);refine mv F fun A F=>?_;refine sw_call0 (rput_m [119, 104, 111] b w0 p ft.l) F M ⟨rfl, rfl, rfl⟩ rfl rfl ?_;rintro _ _ A w ⟨_, rfl⟩ F M;replace ft := ft.r;refine en (rg ?_);refine mv F fun A F=>?_;refine fl F 3 fun A F=>?_;refine ce F M 2 fun A F=>?_;refine sw_call0 ((args_of ar H b w0 lo la lc es he hA) (p.run (tkn [119, 104, 111])) ft.l) F M ⟨rfl, rfl, rfl⟩ rfl rfl ?_;rintro _ _ A w ⟨_, rfl⟩ F M;replace ft := ft.r;refine sw_end ?_;repeat first|refine tn ?_|refine bn ?_
   exact sw_endnone F Tryz.results154 (ze M (by rw [hE]; simp only [PS.run_app, PS.run_nil]))
  have q25 : op ≠ 25 := by simpa using hc57
  rw [hc57] at F;refine sq (rg ?_);refine eqi F fun A F=>?_;refine as1 F fun A F=>?_;refine en (cd F (fun hc58=>?_) fun hc58=>?_)
  ·have q26 : op = 26 := by simpa using hc58
   have hE : (XT.mk op n s ar).evs = tkn [110, 117, 109] ++ (argsV (ar.map XT.evs) ++ []) := by subst q26; exact sh_of ht hok2 (by omega)
   rw [hE] at ft;rw [hc58] at F;refine sq (rg ?_);refine mv F fun A F=>?_;refine sw_call0 (rput_m [110, 117, 109] b w0 p ft.l) F M ⟨rfl, rfl, rfl⟩ rfl rfl ?_;rintro _ _ A w ⟨_, rfl⟩ F M;replace ft := ft.r;refine en (rg ?_);refine mv F fun A F=>?_;refine fl F 3 fun A F=>?_;refine ce F M 2 fun A F=>?_;refine sw_call0 ((args_of ar H b w0 lo la lc es he hA) (p.run (tkn [110, 117, 109])) ft.l) F M ⟨rfl, rfl, rfl⟩ rfl rfl ?_;rintro _ _ A w ⟨_, rfl⟩ F M;replace ft := ft.r;refine sw_end ?_;repeat first|refine tn ?_|refine bn ?_
   exact sw_endnone F Tryz.results154 (ze M (by rw [hE]; simp only [PS.run_app, PS.run_nil]))
  ·have q26 : op ≠ 26 := by simpa using hc58
   exact absurd ht (by unfold isTwo; rw [decide_eq_true (by omega)]; decide)
end Go.Proofs.YthhpkjmhcolgfaaGreatDoor
