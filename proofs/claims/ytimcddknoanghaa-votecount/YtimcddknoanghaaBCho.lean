/- Who is chosen: the answer's. -/
import Derived.Test.YtimcddknoanghaaBIns
namespace Go.Proofs.Ytimcddknoanghaa
open Go.RowKit
set_option linter.unusedVariables false
set_option linter.unusedSimpArgs false

/-- Of the first n seats those that may be, of one who the first alone. -/
def leftN (l : List (Int × Int)) : Nat → List (Int × Int)
  | 0 => []
  | n + 1 => leftN l n ++ (if h : n < l.length then if (∀ z ∈ l.take n, z.1 ≠ l[n].1) ∧ MayS l[n] then [l[n]] else [] else [])
theorem leftN_len (l : List (Int × Int)) : ∀ n, (leftN l n).length ≤ n
  | 0 => by simp [leftN]
  | n + 1 => by
    have := leftN_len l n
    unfold leftN
    rw [List.length_append]
    split
    · split <;> simp <;> omega
    · simp; omega
theorem leftN_succ (l : List (Int × Int)) (n : Nat) (h : n < l.length) : leftN l (n + 1) = leftN l n ++ if (∀ z ∈ l.take n, z.1 ≠ l[n].1) ∧ MayS l[n] then [l[n]] else [] := by
  conv => lhs; unfold leftN
  rw [dif_pos h]
/-- The first is taken ahead of the second. -/
def better (a b : Int × Int) : Bool := decide (b.2 < a.2) || (decide (a.2 = b.2) && decide (a.1 < b.1))
/-- Where the best one of the first n + 1 is. -/
def bestN (l : List (Int × Int)) : Nat → Nat
  | 0 => 0
  | n + 1 => if better (l.getD (n + 1) (0, 0)) (l.getD (bestN l n) (0, 0)) then n + 1 else bestN l n
theorem bestN_le (l : List (Int × Int)) : ∀ n, bestN l n ≤ n
  | 0 => Nat.le_refl _
  | n + 1 => by
    have := bestN_le l n
    unfold bestN
    split <;> omega
/-- Without the one at b. -/
def cutP (l : List (Int × Int)) (b : Nat) : List (Int × Int) := l.take b ++ l.drop (b + 1)
theorem cutP_len {l : List (Int × Int)} {b : Nat} (h : b < l.length) : (cutP l b).length + 1 = l.length := by
  simp [cutP]; omega
/-- The best ones of what is left, one behind the other, put by who. -/
def choGo : Nat → List (Int × Int) → List (Int × Int) → List (Int × Int)
  | 0, out, _ => out
  | n + 1, out, left => if left = [] then out else choGo n (insP (left.getD (bestN left (left.length - 1)) (0, 0)) out) (cutP left (bestN left (left.length - 1)))
def choP (l : List (Int × Int)) : List (Int × Int) := choGo 7 [] (leftN l l.length)

def sliceLen : Value → Nat
  | .slice _ n _ => n
  | _ => 0
theorem insP_len (s : Int × Int) : ∀ l, (insP s l).length = l.length + 1
  | [] => rfl
  | y :: r => by
    unfold insP
    split
    · simp [insP_len s r]
    · simp
theorem choGo_nil (n : Nat) (out : List (Int × Int)) : choGo n out [] = out := by cases n <;> simp [choGo]

theorem step_app_seats {w : World} {ops : Array Oper} {o : Oper} {a : Act} {K : Act → World → Prop} {Q : Exit → Act → World → Prop} {E : Prop} (hgd : o.guard = none) (s x : Operand) (ho : o.op = .call { callee := .builtin .append, args := #[s, x], argTypes := #[22, 22] }) (hty : o.type = 22)
    (base : Nat) (sv : Value) (done : List (Int × Int)) (hs : a.eval s = sv) (hown : w.ownsRow base 53 2 sv done.length (flatS done)) (la : Option Addr) (cap : Nat) (l : List (Int × Int)) (nn : Nat) (hx : a.eval x = .slice la nn cap) (hT : SeatsAt w la l) (hd : done.length ≤ 200000) (hl : l.length ≤ 200000) (hb : base ≤ w.heap.size) (hnn : l.length = nn)
    (h : ∀ v w', w'.ownsRow base 53 2 v (done ++ l).length (flatS (done ++ l)) → w.grownBy w' sv.ownBlock → K (a.put o.dst v) w') : if Region.wanted o (yielded ops a.tmps) = true then Oper.wp Try.prog o a w K Q else E := by
  have hw : Region.wanted o (yielded ops a.tmps) = true := by simp [Region.wanted, hgd]
  rw [if_pos hw]
  obtain ⟨v, w', hr, h1, h2⟩ := app_seats w base sv done hown la cap l hT hd hl hb nn hnn
  exact wp_append_run s x _ ho sv _ v w' hs hx (by rw [hty]; exact hr) (h v w' h1 h2)

theorem owns_drewN {w : World} {base : Nat} {e : TypeId} {size : Nat} {v : Value} {n : Nat} {xs : List Value} (h : w.ownsRow base e size v n xs) (k : Nat) : (w.drewN k).ownsRow base e size v n xs := owns_keep h (below_drewN (Below.refl _ _) k)

set_option maxRecDepth 4000 in
set_option maxHeartbeats 1600000 in
theorem rchoose_any (la : Option Addr) (ca : Nat) (l : List (Int × Int)) (w : World) (hl : l.length ≤ 4096) (h1 : SeatsAt w la l) :
    Calls Try.prog 21 #[.slice la l.length ca] w fun e w' => (∃ v, e = .returned v ∧ w'.ownsRow w.heap.size 53 2 v (choP l).length (flatS (choP l))) ∧ Below w.heap.size w w' := by
  go_enter Try.func21, Try.ntmps21
  go_wp2_with fail
  go_loopw [3, 4] (fun lv iv wv => ∃ (i : Nat) (lf : List (Int × Int)), i ≤ l.length ∧ iv = .int .i64 i ∧ Hid (lf = leftN l i) ∧ lf.length ≤ i ∧ wv.ownsRow w.heap.size 53 2 lv lf.length (flatS lf) ∧ Below w.heap.size w wv) (fun _ iv _ => l.length - (intOf iv).toNat)
  case atStart => exact ⟨0, [], Nat.zero_le _, rfl, rfl, Nat.zero_le _, World.ownsRow_nil _ _ _ _, Below.refl _ _⟩
  case round =>
    obtain ⟨i, lf, hi, rfl, HL, hln, hown, hb⟩ := hrel
    by_cases hlt : i < l.length
    · have hlt' : (i : Int) < (l.length : Int) := by omega
      have HS := leftN_succ l i hlt
      rw [← HL.out] at HS
      have A : ∀ w', Below w.heap.size w w' → ∃ b o, la = some ⟨b, o, none⟩ ∧ b < w'.heap.size ∧ w'.cell? ⟨b, o + i * 2, none⟩ = some (.int .i64 l[i].1) ∧ w'.cell? ⟨b, o + i * 2 + 1, none⟩ = some (.int .i64 l[i].2) := fun w' hb => (h1.below hb).one hlt
      generalize hx : l[i] = x at *
      have HX : Hid (l[i] = x) := hx
      clear hx
      obtain ⟨xk, xv⟩ := x
      go_wp2_with fail
      generalize wr = wq at *
      go_loopw [5, 6] (fun fv kv wv => ∃ (k : Nat) (f : Bool), k ≤ i ∧ kv = .int .i64 k ∧ fv = .bool f ∧ Hid (f = true ↔ ∀ z ∈ l.take k, z.1 ≠ xk) ∧ Below wq.heap.size wq wv) (fun _ kv _ => i - (intOf kv).toNat)
      case atStart => exact ⟨0, true, Nat.zero_le _, rfl, rfl, by show _ ↔ _; simp, Below.refl _ _⟩
      case round =>
        obtain ⟨k, f, hk, rfl, rfl, HF, hbq⟩ := hrel
        have hB := hb.trans (hbq.mono hb.size)
        obtain ⟨b1, o1, e1, z1, a1, a2⟩ := A _ hB
        subst e1
        try simp only at a1 a2
        by_cases hki : k < i
        · have hki' : (k : Int) < (i : Int) := by omega
          have hkl : k < l.length := by omega
          obtain ⟨b2, o2, e2, z2, c1, c2⟩ := (h1.below hB).one hkl
          injection e2 with e2
          injection e2 with e2 e3
          rw [← e2, ← e3] at c1 c2
          clear e2 e3 z2
          have ht := List.take_succ_eq_append_getElem hkl
          generalize l[k] = y at *
          obtain ⟨yk, yv⟩ := y
          simp only at c1 c2
          have HN : Hid ((f && !(yk == xk)) = true ↔ ∀ z ∈ l.take (k + 1), z.1 ≠ xk) := by
            show _ ↔ _
            rw [ht]
            have := HF.out
            simp only [List.mem_append, List.mem_singleton, Bool.and_eq_true, this]
            constructor
            · rintro ⟨g1, g2⟩ z (hz | hz)
              · exact g1 z hz
              · subst hz; simpa using g2
            · intro g
              exact ⟨fun z hz => g z (.inl hz), by have := g (yk, yv) (.inr rfl); simpa using this⟩
          clear ht HF HS A
          cases f with
          | true =>
            go_upto_region 9 with fail
            go_quiet (fail)
            go_wp2
            exact ⟨⟨k + 1, _, by omega, by go_num, rfl, HN, below_drewN hbq _⟩, by simp [intOf]; omega⟩
          | false =>
            go_upto_region 9 with fail
            go_quiet (fail)
            go_wp2
            exact ⟨⟨k + 1, _, by omega, by go_num, rfl, HN, below_drewN hbq _⟩, by simp [intOf]; omega⟩
        · have hki' : ¬ (k : Int) < (i : Int) := by omega
          obtain rfl : k = i := by omega
          have H0 := HF.out
          clear HF
          go_upto_region 10 with fail
          go_wp2_with fail
          refine (rmay_any xk xv wr).mono ?_
          rintro e w1 ⟨rfl, b1⟩
          have hB1 := hB.trans (b1.mono hB.size)
          have hown1 := owns_keep hown (hbq.trans (b1.mono hbq.size))
          clear a1 a2 hbq
          obtain ⟨b2, o2, e2, z2, a1, a2⟩ := A _ hB1
          injection e2 with e2
          injection e2 with e2 e3
          rw [← e2, ← e3] at a1 a2
          rw [← e2] at z2
          clear e2 e3 A
          try simp only at a1 a2
          by_cases hmay : MayS (xk, xv)
          · have hd := decide_eq_true hmay
            simp only [hd]
            cases f with
            | true =>
              rw [if_pos ⟨H0.1 rfl, hmay⟩] at HS
              have HN : Hid (lf ++ [(xk, xv)] = leftN l (k + 1)) := HS.symm
              clear H0 hmay hd HS HX HL
              go_upto_region 12 with fail
              have hz1 : Below w.heap.size w (w1.alloc (.cells #[.int .i64 xk, .int .i64 xv] 53)) := hB1.alloc hB1.size _
              obtain ⟨v2, w2, hr2, ho2, hgr2⟩ := app_seats (w1.alloc (.cells #[.int .i64 xk, .int .i64 xv] 53)) w.heap.size u3 lf (hown1.alloc _) (some ⟨w1.heap.size, 0, none⟩) 1 [(xk, xv)] (SeatsAt.blk (Blk.new _ _ _)) (by omega) (by simp) hz1.size 1 rfl
              have b2 : Below w.heap.size w w2 := hz1.grown hgr2 hz1.size (fun k e => (hown1.lt k e).1)
              go_wp2_with (at_builtin; refine wpList_append_run rfl _ _ 22 rfl _ _ v2 w2 rfl rfl hr2 ?_)
              exact ⟨⟨k + 1, lf ++ [(xk, xv)], by omega, by go_num, HN, by simp; omega, ho2, b2⟩, by simp [intOf]; omega⟩
            | false =>
              rw [if_neg (fun g => by have := H0.2 g.1; cases this), List.append_nil] at HS
              have HN : Hid (lf = leftN l (k + 1)) := HS.symm
              clear H0 hmay hd HS HX HL
              go_wp2
              exact ⟨⟨k + 1, lf, by omega, by go_num, HN, by omega, hown1, hB1⟩, by simp [intOf]; omega⟩
          · have hd := decide_eq_false hmay
            simp only [hd]
            rw [if_neg (fun g => hmay g.2), List.append_nil] at HS
            have HN : Hid (lf = leftN l (k + 1)) := HS.symm
            clear H0 hmay hd HS HX HL
            cases f with
            | true =>
              go_wp2
              exact ⟨⟨k + 1, lf, by omega, by go_num, HN, by omega, hown1, hB1⟩, by simp [intOf]; omega⟩
            | false =>
              go_wp2
              exact ⟨⟨k + 1, lf, by omega, by go_num, HN, by omega, hown1, hB1⟩, by simp [intOf]; omega⟩
    · have hge : ¬ (i : Int) < (l.length : Int) := by omega
      obtain rfl : i = l.length := by omega
      have HC : Hid (choGo 7 [] lf = choP l) := by show _ = _; rw [HL.out]; rfl
      clear HL hlt
      go_wp2_with fail
      generalize wr = wq0 at *
      go_loopw [3, 8] (fun lv ov wv => ∃ (left out : List (Int × Int)), Hid (choGo (7 - out.length) out left = choP l) ∧ out.length ≤ 7 ∧ left.length ≤ 4096 ∧ wv.ownsRow w.heap.size 53 2 lv left.length (flatS left) ∧ wv.ownsRow w.heap.size 53 2 ov out.length (flatS out) ∧ Below w.heap.size w wv) (fun _ ov _ => 7 - sliceLen ov)
      case atStart => exact ⟨lf, [], HC, Nat.zero_le _, by omega, hown, World.ownsRow_nil _ _ _ _, hb⟩
      case round =>
        obtain ⟨left, out, HG, ho7, hl4, hol, hoo, hbw⟩ := hrel
        clear hown hb HC hln
        obtain ⟨lb, lc, rfl, hsl⟩ := SeatsAt.of_owns hol
        obtain ⟨ob, oc, rfl, hso⟩ := SeatsAt.of_owns hoo
        by_cases h7 : out.length < 7
        rotate_left
        · have h7' : ¬ (out.length : Int) < 7 := by omega
          have HR : Hid (out = choP l) := by
            have := HG.out
            rwa [show 7 - out.length = 0 by omega] at this
          clear HG
          go_wp2
          go_ret
          exact ⟨⟨_, rfl, by rw [← HR.out]; exact hoo⟩, hbw⟩
        have h7' : (out.length : Int) < 7 := by omega
        by_cases hz : left = []
        · subst hz
          have HR : Hid (out = choP l) := by
            have := HG.out
            rwa [choGo_nil] at this
          clear HG
          go_wp2
          go_ret
          exact ⟨⟨_, rfl, by rw [← HR.out]; exact hoo⟩, hbw⟩
        have hpos : 0 < left.length := List.length_pos_iff.2 hz
        have hpos' : (0 : Int) < (left.length : Int) := by omega
        have HG1 : Hid (choGo (6 - out.length) (insP (left.getD (bestN left (left.length - 1)) (0, 0)) out) (cutP left (bestN left (left.length - 1))) = choP l) := by
          show _ = _
          rw [← HG.out, show 7 - out.length = (6 - out.length) + 1 by omega]
          simp only [choGo, if_neg hz]
        clear HG
        rcases hol.2 with ⟨e0, hn⟩ | ⟨g, cap, cur, e0, hg1, hg2, hg3, hg4, hg5, hg6⟩
        · omega
        injection e0 with e1 e2 e3
        subst e1 e3
        clear hg4 hg5 hg6 hz
        go_wp2_with fail
        generalize wr = wq at *
        go_loopw [9, 10] (fun bv iv wv => ∃ (b i : Nat), bv = .int .i64 b ∧ iv = .int .i64 i ∧ 1 ≤ i ∧ i ≤ left.length ∧ b < i ∧ Hid (b = bestN left (i - 1)) ∧ Below wq.heap.size wq wv) (fun _ iv _ => left.length - (intOf iv).toNat)
        case atStart => exact ⟨0, 1, rfl, rfl, Nat.le_refl _, hpos, by omega, rfl, Below.refl _ _⟩
        case round =>
          obtain ⟨b, i, rfl, rfl, hi1, hi2, hbi, HB, hbq⟩ := hrel
          by_cases hil : i < left.length
          · have hil' : (i : Int) < (left.length : Int) := by omega
            have hbl : b < left.length := by omega
            obtain ⟨b1, o1, e1, z1, a1, a2⟩ := (hsl.below hbq).one hil
            obtain ⟨b2, o2, e2, z2, c1, c2⟩ := (hsl.below hbq).one hbl
            injection e1 with e1
            injection e1 with e1 e3
            injection e2 with e2
            injection e2 with e2 e4
            rw [← e1, ← e3, Nat.zero_add] at a1 a2
            rw [← e2, ← e4, Nat.zero_add] at c1 c2
            rw [← e1] at z1
            have HN : Hid (bestN left (i + 1 - 1) = if better left[i] left[b] then i else b) := by
              show _ = _
              rw [Nat.add_sub_cancel]
              obtain ⟨j, rfl⟩ : ∃ j, i = j + 1 := ⟨i - 1, by omega⟩
              have := HB.out
              rw [Nat.add_sub_cancel] at this
              unfold bestN
              rw [← this]
              simp [List.getD, hil, hbl]
            clear e1 e2 e3 e4 z2
            generalize left[i] = x at *
            generalize left[b] = y at *
            obtain ⟨xk, xv⟩ := x
            obtain ⟨yk, yv⟩ := y
            unfold better at HN
            simp only at a1 a2 c1 c2 HN
            clear HB hsl hso hoo hol hg2
            by_cases q1 : yv < xv
            · have HM : Hid (i = bestN left (i + 1 - 1)) := by show _ = _; rw [HN.out]; simp [q1]
              clear HN
              go_upto_region 19 with fail
              go_quiet (fail)
              go_wp2
              exact ⟨⟨i, i + 1, rfl, by go_num, by omega, by omega, by omega, HM, below_drewN hbq _⟩, by simp [intOf]; omega⟩
            · have q1d : decide (yv < xv) = false := by simpa using q1
              by_cases q2 : xv = yv
              · subst q2
                by_cases q3 : xk < yk
                · have HM : Hid (i = bestN left (i + 1 - 1)) := by show _ = _; rw [HN.out]; simp [q3]
                  clear HN
                  go_upto_region 19 with fail
                  go_quiet (fail)
                  go_wp2
                  exact ⟨⟨i, i + 1, rfl, by go_num, by omega, by omega, by omega, HM, below_drewN hbq _⟩, by simp [intOf]; omega⟩
                · have q3d : decide (xk < yk) = false := by simpa using q3
                  have HM : Hid (b = bestN left (i + 1 - 1)) := by show _ = _; rw [HN.out]; simp [q3]
                  clear HN
                  go_upto_region 19 with fail
                  go_quiet (fail)
                  go_wp2
                  exact ⟨⟨b, i + 1, rfl, by go_num, by omega, by omega, by omega, HM, below_drewN hbq _⟩, by simp [intOf]; omega⟩
              · have q2d : (xv == yv) = false := by simpa using q2
                have HM : Hid (b = bestN left (i + 1 - 1)) := by show _ = _; rw [HN.out]; simp [q1, q2]
                clear HN
                go_upto_region 19 with fail
                go_quiet (fail)
                go_wp2
                exact ⟨⟨b, i + 1, rfl, by go_num, by omega, by omega, by omega, HM, below_drewN hbq _⟩, by simp [intOf]; omega⟩
          · have hil' : ¬ (i : Int) < (left.length : Int) := by omega
            obtain rfl : i = left.length := by omega
            obtain ⟨b1, o1, e1, z1, a1, a2⟩ := (hsl.below hbq).one hbi
            injection e1 with e1
            injection e1 with e1 e3
            rw [← e1, ← e3, Nat.zero_add] at a1 a2
            rw [← e1] at z1
            clear e1 e3
            have HX : Hid (left.getD b (0, 0) = left[b]) := by show _ = _; simp [List.getD, hbi]
            have HG2 : Hid (choGo (6 - out.length) (insP left[b] out) (cutP left b) = choP l) := by
              have := HG1.out
              rw [← HB.out, HX.out] at this
              exact this
            clear HG1 HX HB
            generalize left[b] = x at *
            obtain ⟨xk, xv⟩ := x
            try simp only at a1 a2
            go_upto_region 21 with fail
            go_wp2_with fail
            refine (rinsert_any w.heap.size (.slice ob out.length oc) out xk xv wr (by omega) (owns_keep hoo hbq)).mono ?_
            rintro e w1 ⟨⟨nv, rfl, hno⟩, b1'⟩
            have hq1 := hbq.trans (b1'.mono hbq.size)
            have hB1 := hbw.trans (hq1.mono hbw.size)
            have hno1 := owns_base hno (Nat.le_trans hbw.size hbq.size)
            have hsl1 := hsl.below hq1
            have hcut := cutP_len hbi
            have hzg : g < w1.heap.size := Nat.lt_of_lt_of_le z1 b1'.size
            clear a1 a2 hno hsl hso hoo hol hg2 hbw hbq hq1
            go_upto_region 22 with fail
            have lb1 : b ≤ lc := by omega
            have lb2 : b + 1 ≤ lc := by omega
            have lb3 : b + 1 ≤ left.length := by omega
            have bB : Below w1.heap.size w1 (w1.alloc (.cells #[] 53)).drew := ((Below.refl _ _).alloc (Nat.le_refl _) _).drew
            have hr0 : (w1.alloc (.cells #[] 53)).drew.ownsRow w1.heap.size 53 2 (.slice (some ⟨w1.heap.size, 0, none⟩) 0 0) ([] : List (Int × Int)).length (flatS []) := World.ownsRow_made w1 #[] 0 (Nat.le_refl _) (Nat.zero_le _) rfl
            have hT1 : SeatsAt (w1.alloc (.cells #[] 53)).drew (some ⟨g, 0, none⟩) (left.take b) := (hsl1.below bB).take b
            have lb4 : (b : Int) + 1 ≤ (left.length : Int) := by omega
            have lb5 : (0 : Int) ≤ (b : Int) + 1 := by omega
            have lb6 : (b : Int) + 1 ≤ 9223372036854775807 := by omega
            have hwr : IntKind.i64.wrap ((b : Int) + 1) = (b : Int) + 1 := by
              simp [IntKind.wrap, IntKind.min, IntKind.max, IntKind.signed, IntKind.bits]
              omega
            have hT2 : ∀ w', Below w1.heap.size w1 w' → SeatsAt w' (if lc = b + 1 then some ⟨g, 0, none⟩ else some ⟨g, (b + 1) * 2, none⟩) (left.drop (b + 1)) := fun w' hb => by
              split
              · exact .inl (by simp; omega)
              · have h9 := (hsl1.below hb).drop (b + 1); rw [Nat.zero_add] at h9; exact h9
            go_region_law
              (first
              | (refine step_app_seats (by rfl) _ _ (by rfl) (by rfl) w1.heap.size _ [] (by rfl) hr0 (some ⟨g, 0, none⟩) lc (left.take b) b (by rfl) hT1 (by simp) (by simp; omega) bB.size (by simp; omega) ?_
                 intro v9 w9 ho9 hg9
                 have b9 : Below w1.heap.size w1 w9 := bB.grown hg9 bB.size (fun k e => by simp [Value.ownBlock] at e; omega)
                 simp only [List.nil_append] at ho9)
              | (refine step_app_seats (by rfl) _ _ (by rfl) (by rfl) w1.heap.size v9 (left.take b) (by rfl) ho9 (if lc = b + 1 then some ⟨g, 0, none⟩ else some ⟨g, (b + 1) * 2, none⟩) (lc - (b + 1)) (left.drop (b + 1)) (left.length - (b + 1)) (by rfl) (hT2 _ b9) (by simp; omega) (by simp; omega) b9.size (by simp) ?_
                 intro v8 w8 ho8 hg8
                 have b8 : Below w1.heap.size w1 w8 := b9.grown hg8 b9.size (fun k e => (ho9.lt k e).1)))
            all_goals
              clear hwr lb1 lb2 lb3 lb4 lb5 lb6 hT1 hT2 hr0
              simp only [Act.put, List.getElem_toArray, List.getElem_cons_succ, List.getElem_cons_zero, List.setIfInBounds_toArray, List.set_cons_zero, List.set_cons_succ]
              obtain ⟨na, nc, rfl, _⟩ := SeatsAt.of_owns hno1
              go_wp2
              refine ⟨⟨cutP left b, insP (xk, xv) out, ?_, by rw [insP_len]; omega, by omega, owns_base ho8 hB1.size, owns_keep hno1 b8, hB1.trans (b8.mono hB1.size)⟩, ?_⟩
              · show _ = _
                rw [insP_len, show 7 - (out.length + 1) = 6 - out.length by omega]
                exact HG2.out
              · simp only [sliceLen, insP_len]
                omega
end Go.Proofs.Ytimcddknoanghaa
