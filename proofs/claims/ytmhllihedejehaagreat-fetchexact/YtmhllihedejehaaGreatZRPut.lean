/- The answer's Put: what room its row has. -/
import Derived.Test.YtmhllihedejehaaGreatTRPut2
namespace Go.Proofs.YtmhllihedejehaaGreat
open Go.RowKit
set_option linter.unusedVariables false
set_option linter.unusedSimpArgs false

theorem owns_capI {w : World} {base : Nat} {e : TypeId} {sz : Nat} {a : Option Addr} {n c k : Nat} {xs : List Value} (h : w.ownsRow base e sz (.slice a n c) k xs) : n ≤ c := by
  rcases h.2 with ⟨e, h0⟩ | ⟨g, cap, cur, e, e2, e3, e4, e5, e6, e7⟩
  · simp only [Value.slice.injEq] at e
    omega
  · simp only [Value.slice.injEq] at e
    omega

set_option maxHeartbeats 6400000 in
theorem rput_cap (W : Int) (la : Option Addr) (cap : Nat) (l : List (Key × Key)) (key value : Key) (w : World) (hn : l.length ≤ 100000) (hk : key.length ≤ 32) (hv : value.length ≤ 4096) (hi0 : ItemsAt w la l) :
    Calls Tryz.prog 24 #[.agg #[.int .i64 W, .slice la l.length cap], .string (str key), .string (str value)] w fun e w' => ∃ la', (∃ cap', e = .returned (.tuple #[.agg #[.int .i64 W, .slice la' (putGo key value (value == []) l).length cap'], .int .i64 0]) ∧ (putGo key value (value == []) l).length ≤ cap') ∧ ItemsAt w' la' (putGo key value (value == []) l) ∧ Below w.heap.size w w' ∧ Fresh w.heap.size la' (putGo key value (value == []) l) := by
  have s1 := str_size key
  have s2 := str_size value
  have h1' : ¬ (32 : Int) < (key.length : Int) := by omega
  have h2' : ¬ (4096 : Int) < (value.length : Int) := by omega
  have R0 := RPut.start w W la cap l
  have l1 := str_toList value
  have l2 := str_toList key
  have hve : value.isEmpty = (value == []) := by cases value <;> rfl
  obtain ⟨i0, hinf, hz0, hz1, hz2⟩ := info_parts infoItem
  obtain ⟨D0, HD0⟩ : ∃ D0, Hid ((value == []) = D0) := ⟨_, rfl⟩
  rw [HD0.out] at hve ⊢
  have hve2 : (value == []) = D0 := HD0.out
  go_enter Tryz.func24, Tryz.ntmps24
  go_wp2_with fail
  generalize ((w.alloc (.cells #[.int .i64 W, .slice la l.length cap] 36)).alloc (.cells #[.int .i64 0, .slice none 0 0] 36)).alloc (.cells #[.int .i64 W, .slice none 0 0] 36) = wA at *
  clear hve hve2 l1
  go_loopw [9, 10] (fun dv iv wv => ∃ (i : Nat) (d : Bool) (m : List (Key × Key)) (sv : Value), i ≤ l.length ∧ iv = .int .i64 i ∧ dv = .bool d ∧ m.length ≤ 2 * i ∧ Hid (putGo key value D0 l = m ++ putGo key value d (l.drop i)) ∧ RPut w W la cap l m sv wv) (fun _ iv _ => l.length - (intOf iv).toNat)
  case atStart => exact ⟨0, D0, [], _, Nat.zero_le _, rfl, rfl, by simp, by show _ = _; simp, R0⟩
  case round =>
    obtain ⟨i, d, m, sv, hi, rfl, rfl, hml, HP, R⟩ := hrel
    clear R0
    obtain ⟨sa, sc, rfl, _⟩ := ItemsAt.of_owns R.own
    obtain ⟨f0, f1, f2, f3, f4, f5, f6, f7, f8⟩ := R.facts
    have z0 := R.t.lt
    have z1 := R.r.lt
    have z2 := R.o.lt
    by_cases hlt : i < l.length
    · have hlt' : (i : Int) < (l.length : Int) := by omega
      have hdrop := List.drop_eq_getElem_cons hlt
      have hget := List.getElem?_eq_getElem hlt
      obtain ⟨x, ex⟩ : ∃ x, l[i] = x := ⟨_, rfl⟩
      rw [ex] at hdrop hget
      clear ex
      obtain ⟨xk, xv⟩ := x
      rcases id hi0 with h0 | ⟨b1, o1, e1, zl, c1⟩
      · rw [h0] at hlt; simp at hlt
      subst e1
      have A1 : ∀ wz, Below w.heap.size w wz → wz.cell? ⟨b1, o1 + i * 2, none⟩ = some (.string (str xk)) := fun wz hb => by rw [hb.cell (p := ⟨b1, o1 + i * 2, none⟩) zl]; exact (c1 i _ hget).1
      have A2 : ∀ wz, Below w.heap.size w wz → wz.cell? ⟨b1, o1 + i * 2 + 1, none⟩ = some (.string (str xv)) := fun wz hb => by rw [hb.cell (p := ⟨b1, o1 + i * 2 + 1, none⟩) zl]; exact (c1 i _ hget).2
      have l3 := str_toList xk
      obtain ⟨LE, HLE⟩ : ∃ LE, Hid ((Op.bytesLess key xk || key == xk) = LE) := ⟨_, rfl⟩
      obtain ⟨EQ, HEQ⟩ : ∃ EQ, Hid ((xk == key) = EQ) := ⟨_, rfl⟩
      have HS : Hid (putGo key value D0 l = m ++ ((if !d && LE then [(key, value)] else []) ++ (if EQ then [] else [(xk, xv)])) ++ putGo key value (d || LE) (l.drop (i + 1))) := by
        show _ = _
        rw [HP.out, hdrop]
        simp only [putGo]
        rw [HLE.out, HEQ.out]
        simp only [List.append_assoc]
      have hle : (Op.bytesLess key xk || key == xk) = LE := HLE.out
      have heq : (xk == key) = EQ := HEQ.out
      have a1 := A1 wr R.below
      clear HP hdrop hget c1 hi0
      cases d with
      | true =>
        cases EQ with
        | true =>
          go_wp2
          exact ⟨⟨i + 1, true, m, _, by omega, by go_num, rfl, by omega, by show _ = _; rw [HS.out]; simp, R⟩, by simp [intOf]; omega⟩
        | false =>
          go_upto_region 12 with fail
          have RD := R.next ((Below.refl wr.heap.size wr).drew)
          have a2 := A2 wr R.below
          have hb3 : m.length + 1 ≤ maxLen := by first | (unfold maxLen; omega) | (unfold maxLen; simp; omega)
          have hb4 : (m.length + 1) * 32 ≤ 140737488355328 := by first | omega | (simp; omega)
          have hb5 : w.heap.size + 3 ≤ (wr.drew.alloc (.cells #[.string (str xk), .string (str xv)] 64)).heap.size := by have := R.o.lt; simp; omega
          go_region_law
            (first
            | (refine step_append_lies _ (by rfl) _ _ _ (by rfl) (w.heap.size + 3) 64 i0 (.agg #[.string ⟨#[]⟩, .string ⟨#[]⟩]) 2 32 Tryz.underlying22 hinf hz0 hz1 hz2 rfl (by omega) (.slice sa m.length sc) m.length (flat (m)) (by rfl) (RD.own.alloc _) ⟨wr.heap.size, 0, none⟩ 1 1 [.string (str xk), .string (str xv)] (by rfl) (by rfl) (cells_two _ _ _ _) (by simp [Value.oneCell']) (by omega) hb3 hb4 hb5 (wr.heap.size + 1) (by simp) ?_
               intro g4 cg4 w4 hown4 hgrow4 hat4 hlt4
               have RA := RD.appended (xk, xv) hown4 hgrow4
               have oc4 := (RA.1.cell 1).trans rfl
               have of4 := RA.1.frozen 1))
          all_goals
            go_wp2
            exact ⟨⟨i + 1, true, m ++ [(xk, xv)], _, by omega, by go_num, rfl, by simp; omega, by show _ = _; rw [HS.out]; simp, RA.2⟩, by simp [intOf]; omega⟩
      | false =>
        cases LE with
        | false =>
          cases EQ with
          | true =>
            go_wp2
            exact ⟨⟨i + 1, false, m, _, by omega, by go_num, rfl, by omega, by show _ = _; rw [HS.out]; simp, R⟩, by simp [intOf]; omega⟩
          | false =>
            go_upto_region 12 with fail
            have RD := R.next ((Below.refl wr.heap.size wr).drew)
            have a2 := A2 wr R.below
            have hb3 : m.length + 1 ≤ maxLen := by first | (unfold maxLen; omega) | (unfold maxLen; simp; omega)
            have hb4 : (m.length + 1) * 32 ≤ 140737488355328 := by first | omega | (simp; omega)
            have hb5 : w.heap.size + 3 ≤ (wr.drew.alloc (.cells #[.string (str xk), .string (str xv)] 64)).heap.size := by have := R.o.lt; simp; omega
            go_region_law
              (first
              | (refine step_append_lies _ (by rfl) _ _ _ (by rfl) (w.heap.size + 3) 64 i0 (.agg #[.string ⟨#[]⟩, .string ⟨#[]⟩]) 2 32 Tryz.underlying22 hinf hz0 hz1 hz2 rfl (by omega) (.slice sa m.length sc) m.length (flat (m)) (by rfl) (RD.own.alloc _) ⟨wr.heap.size, 0, none⟩ 1 1 [.string (str xk), .string (str xv)] (by rfl) (by rfl) (cells_two _ _ _ _) (by simp [Value.oneCell']) (by omega) hb3 hb4 hb5 (wr.heap.size + 1) (by simp) ?_
                 intro g4 cg4 w4 hown4 hgrow4 hat4 hlt4
                 have RA := RD.appended (xk, xv) hown4 hgrow4
                 have oc4 := (RA.1.cell 1).trans rfl
                 have of4 := RA.1.frozen 1))
            all_goals
              go_wp2
              exact ⟨⟨i + 1, false, m ++ [(xk, xv)], _, by omega, by go_num, rfl, by simp; omega, by show _ = _; rw [HS.out]; simp, RA.2⟩, by simp [intOf]; omega⟩
        | true =>
          go_wp2_with (at_builtin; refine wpList_append_lies _ rfl _ _ _ rfl (w.heap.size + 3) 64 i0 (.agg #[.string ⟨#[]⟩, .string ⟨#[]⟩]) 2 32 Tryz.underlying22 hinf hz0 hz1 hz2 rfl (by omega) (.slice sa m.length sc) m.length (flat m) rfl (R.own.alloc _) ⟨wr.heap.size, 0, none⟩ 1 1 [.string (str key), .string (str value)] rfl rfl (cells_two _ _ _ _) (by simp [Value.oneCell']) (by omega) ?c3 ?c4 ?c5 (wr.heap.size + 1) (by simp) ?_)
          case c3 => unfold maxLen; omega
          case c4 => omega
          case c5 => have := R.below.size; simp; omega
          intro g cg w2 hown2 hgrow hat hlt2
          obtain ⟨o2, R2⟩ := R.appended (key, value) hown2 hgrow
          have oc := (o2.cell 1).trans rfl
          have of := o2.frozen 1
          clear f0 f1 f2 f3 f4 f5 f6 f7 f8 z0 z1 z2 a1 R
          obtain ⟨f0, f1, f2, f3, f4, f5, f6, f7, f8⟩ := R2.facts
          have z0 := R2.t.lt
          have z1 := R2.r.lt
          have z2 := R2.o.lt
          have a1 := A1 _ R2.below
          cases EQ with
          | true =>
            go_wp2
            exact ⟨⟨i + 1, true, (m ++ [(key, value)]), _, by omega, by go_num, rfl, by simp; omega, by show _ = _; rw [HS.out]; simp, R2⟩, by simp [intOf]; omega⟩
          | false =>
            go_upto_region 12 with fail
            generalize w2.setCell ⟨w.heap.size + 2, 1, none⟩ (.slice (some ⟨g, 0, none⟩) (m.length + 1) cg) = wz at *
            have RD := R2.next ((Below.refl wz.heap.size wz).drew)
            have a2 := A2 wz R2.below
            have hb3 : (m ++ [(key, value)]).length + 1 ≤ maxLen := by first | (unfold maxLen; omega) | (unfold maxLen; simp; omega)
            have hb4 : ((m ++ [(key, value)]).length + 1) * 32 ≤ 140737488355328 := by first | omega | (simp; omega)
            have hb5 : w.heap.size + 3 ≤ (wz.drew.alloc (.cells #[.string (str xk), .string (str xv)] 64)).heap.size := by have := R2.o.lt; simp; omega
            go_region_law
              (first
              | (refine step_append_lies _ (by rfl) _ _ _ (by rfl) (w.heap.size + 3) 64 i0 (.agg #[.string ⟨#[]⟩, .string ⟨#[]⟩]) 2 32 Tryz.underlying22 hinf hz0 hz1 hz2 rfl (by omega) (.slice (some ⟨g, 0, none⟩) (m.length + 1) cg) (m ++ [(key, value)]).length (flat ((m ++ [(key, value)]))) (by rfl) (RD.own.alloc _) ⟨wz.heap.size, 0, none⟩ 1 1 [.string (str xk), .string (str xv)] (by rfl) (by rfl) (cells_two _ _ _ _) (by simp [Value.oneCell']) (by omega) hb3 hb4 hb5 (wz.heap.size + 1) (by simp) ?_
                 intro g4 cg4 w4 hown4 hgrow4 hat4 hlt4
                 have RA := RD.appended (xk, xv) hown4 hgrow4
                 have oc4 := (RA.1.cell 1).trans rfl
                 have of4 := RA.1.frozen 1))
            all_goals
              go_wp2
              exact ⟨⟨i + 1, true, (m ++ [(key, value)]) ++ [(xk, xv)], _, by omega, by go_num, rfl, by simp; omega, by show _ = _; rw [HS.out]; simp, (by have h := RA.2; simp only [List.length_append, List.length_cons, List.length_nil, Nat.zero_add] at h; exact h)⟩, by simp [intOf]; omega⟩
    · have hge : ¬ (i : Int) < (l.length : Int) := by omega
      have hil : i = l.length := by omega
      have HE : Hid (putGo key value D0 l = m ++ (if d then [] else [(key, value)])) := by
        show _ = _
        rw [HP.out, hil, List.drop_length]
        cases d <;> rfl
      clear HP hil
      cases d with
      | true =>
        have HE2 : Hid (putGo key value D0 l = m) := by show _ = _; rw [HE.out]; simp
        go_wp2
        refine bodyPost_ret (v := .tuple #[.agg #[.int .i64 W, .slice sa m.length sc], .int .i64 0]) (by simp [results, Tryz.results24, go_sem, f0, f1, f2, f3, f4, f5, f6, f7, f8, z0, z1, z2]) rfl ⟨sa, ⟨sc, ?_, ?_⟩, ?_, (R.done _ _).2, ?_⟩
        · rw [HE2.out]
        · rw [HE2.out]; exact owns_capI R.own
        · rw [HE2.out]; exact (R.done _ _).1
        · rw [HE2.out]; exact (Fresh.of_owns R.own).mono (by omega)
      | false =>
        have HE2 : Hid (putGo key value D0 l = m ++ [(key, value)]) := by show _ = _; rw [HE.out]; simp
        go_wp2_with (at_builtin; refine wpList_append_lies _ rfl _ _ _ rfl (w.heap.size + 3) 64 i0 (.agg #[.string ⟨#[]⟩, .string ⟨#[]⟩]) 2 32 Tryz.underlying22 hinf hz0 hz1 hz2 rfl (by omega) (.slice sa m.length sc) m.length (flat m) rfl (R.own.alloc _) ⟨wr.heap.size, 0, none⟩ 1 1 [.string (str key), .string (str value)] rfl rfl (cells_two _ _ _ _) (by simp [Value.oneCell']) (by omega) ?c3 ?c4 ?c5 (wr.heap.size + 1) (by simp) ?_)
        case c3 => unfold maxLen; omega
        case c4 => omega
        case c5 => have := R.below.size; simp; omega
        intro g cg w2 hown2 hgrow hat hlt2
        obtain ⟨o2, R2⟩ := R.appended (key, value) hown2 hgrow
        have oc := (o2.cell 1).trans rfl
        have of := o2.frozen 1
        clear f0 f1 f2 f3 f4 f5 f6 f7 f8 z0 z1 z2 R
        obtain ⟨f0, f1, f2, f3, f4, f5, f6, f7, f8⟩ := R2.facts
        have z0 := R2.t.lt
        have z1 := R2.r.lt
        have z2 := R2.o.lt
        go_wp2
        refine bodyPost_ret (v := .tuple #[.agg #[.int .i64 W, .slice (some ⟨g, 0, none⟩) (m.length + 1) cg], .int .i64 0]) (by simp [results, Tryz.results24, go_sem, f0, f1, f2, f3, f4, f5, f6, f7, f8, z0, z1, z2]) rfl ⟨some ⟨g, 0, none⟩, ⟨cg, ?_, ?_⟩, ?_, (RPut.done (sc := cg) (sa := some ⟨g, 0, none⟩) (by rw [List.length_append]; exact R2) _ _).2, ?_⟩
        · rw [HE2.out, List.length_append]; rfl
        · rw [HE2.out, List.length_append]; exact owns_capI R2.own
        · rw [HE2.out]; exact (RPut.done (sc := cg) (sa := some ⟨g, 0, none⟩) (by rw [List.length_append]; exact R2) _ _).1
        · rw [HE2.out]; exact (Fresh.of_owns R2.own).mono (by omega)
end Go.Proofs.YtmhllihedejehaaGreat
