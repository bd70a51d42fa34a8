/- TrieOrder: the walk of the law. -/
import Derived.Test.YtncaimopkcnmbaaTOAt
namespace Go.Proofs.Ytncaimopkcnmbaa
open Go.RowKit
set_option linter.unusedVariables false
set_option linter.unusedSimpArgs false
set_option maxHeartbeats 6400000 in
set_option maxRecDepth 8000 in
theorem order_any (wd : Int) (la oa : Option Addr) (lc oc : Nat) (l : List (Key × Key)) (od : List Int) (w : World) (hw : okW wd) (hi0 : ItemsAt w la l) (hl : l.length ≤ maxLen) (ho : od.length ≤ maxLen) (hk : ∀ x ∈ l, x.1.length ≤ maxLen ∧ x.2.length ≤ maxLen)
    (ho0 : IntsAt w oa od) (hod : ∀ x ∈ od, -9223372036854775808 ≤ x ∧ x ≤ 9223372036854775807) :
    Calls Try.prog 3 #[.int .i64 wd, .slice la l.length lc, .slice oa od.length oc] w fun e w' => e = .returned (.bool true) ∧ Below w.heap.size w w' := by
  go_enter Try.func3, Try.ntmps3
  go_wp2_with fail
  refine (light_any la lc l _ hl hi0).mono ?_
  rintro e w1 ⟨hf, b1⟩
  obtain ⟨x, rfl, hx⟩ : ∃ x : Bool, e = .returned (.bool x) ∧ (x = true → l.length ≤ 1024) := hf
  cases x with
  | false =>
    go_wp2_with fail
    go_ret
    exact ⟨rfl, b1⟩
  | true =>
    have hn := hx rfl
    by_cases h4 : od.length > 4096
    · have h4' : (od.length : Int) > 4096 := by omega
      go_wp2_with fail
      go_ret
      exact ⟨rfl, b1⟩
    · have h4' : ¬ (od.length : Int) > 4096 := by omega
      have h4f : decide (4096 < (od.length : Int)) = false := by simp; omega
      go_wp2_with fail
      refine (pick_any wd 8 _ hw (by omega)).mono ?_
      rintro e _ ⟨⟨r, rfl, hr0, hr8⟩, rfl⟩
      go_wp2_with fail
      refine (grown_any _ la lc l _ (by unfold okW; omega) hn hk (hi0.below b1)).mono ?_
      rintro e w2 ⟨q, ua, ⟨uc, rfl⟩, hT, hI, b2⟩
      go_wp2_with fail
      refine (new_any _ _).mono ?_
      rintro e w3 ⟨rfl, b3⟩
      go_wp2_with fail
      have G0 := OAt.start (w := w) (b1.trans (b2.mono b1.size)) hT hI b3
      have hg : Good (l.foldl growO none) := grow_good l none Good.none
      have hgl : (itemsO (l.foldl growO none)).length ≤ 1024 := by have := grow_len l none Good.none; simp [itemsO] at this ⊢; omega
      have hod2 := ho0
      generalize l.foldl growO none = o at *
      generalize w2.heap.size = bt at *
      generalize w3.heap.size = bv at *
      generalize w3.alloc (.cells #[.int .i64 (1 + r), .pointer none] 28) = wA at *
      clear hT hI b1 b2 b3 hx
      generalize hwd : 1 + r = wd' at *
      have hw' : okW wd' := by unfold okW; omega
      have KI0 := KeysIn.none (itemsO o)
      go_loopw [10] (fun iv wv => ∃ (i : Nat) (v : Option Tr) (qv : Option Addr), i ≤ od.length ∧ iv = .int .i64 i ∧ KeysIn (itemsO o) v ∧ OAt w bt bv wd' q qv ua uc o v wv) (fun iv _ => od.length - (intOf iv).toNat)
      case atStart => exact ⟨0, none, none, Nat.zero_le _, rfl, KI0, G0⟩
      case round =>
        obtain ⟨i, v, qv, hi, rfl, KI, G⟩ := hrel
        clear G0 KI0
        obtain ⟨v0, v1, u0, u1⟩ := G.facts
        have zu := G.u.lt
        have zv := G.vb.lt
        by_cases hlt : i < od.length
        · have hlt' : (i : Int) < (od.length : Int) := by omega
          by_cases hz : (itemsO o).length > 0
          · have hz' : ((itemsO o).length : Int) > 0 := by omega
            rcases id ho0 with h0 | ⟨ob, oo, e1, zo, co⟩
            · rw [h0] at hlt; simp at hlt
            subst e1
            have hget := List.getElem?_eq_getElem hlt
            have hox := hod _ (List.getElem_mem hlt)
            obtain ⟨x, ex⟩ : ∃ x, od[i] = x := ⟨_, rfl⟩
            rw [ex] at hget hox
            clear ex
            have zw := G.below.size
            have XO : ∀ w', Below w.heap.size w w' → w'.cell? ⟨ob, oo + i, none⟩ = some (.int .i64 x) := fun w' h => by rw [h.cell (p := ⟨ob, oo + i, none⟩) zo]; exact co i _ hget
            have X0 : ∀ w', Below wr.heap.size wr w' → w'.cell? ⟨ob, oo + i, none⟩ = some (.int .i64 x) := fun w' h => XO w' (G.below.trans (h.mono G.below.size))
            have HX := show Hid (_) from XO
            clear XO
            obtain ⟨ub, uo, eu⟩ := G.some hz
            subst eu
            obtain ⟨C1, C2, C3⟩ := G.held
            have HG := show Hid (OAt _ _ _ _ _ _ _ _ _ _ _) from G
            have bw : Below wr.heap.size wr wr := Below.refl _ _
            clear co hget G v0 v1 u0 u1
            go_upto_region 9 with fail
            go_region_held3 (fun w' => Below wr.heap.size wr w') (repeat (first | exact bw.drew | assumption | refine Below.drew ?_ | exact bw))
              (first
              | (go_at_call 6
                 refine (pick_any x _ _ hox (by omega)).mono ?_
                 rintro e _ ⟨⟨r2, rfl, hk0, hk1⟩, rfl⟩))
            obtain ⟨k, rfl⟩ : ∃ k : Nat, r2 = k := ⟨r2.toNat, by omega⟩
            have hkl : k < (itemsO o).length := by omega
            have hget := List.getElem?_eq_getElem hkl
            have hzm := List.getElem_mem hkl
            obtain ⟨z, ez⟩ : ∃ z, (itemsO o)[k] = z := ⟨_, rfl⟩
            rw [ez] at hget hzm
            clear ez
            obtain ⟨hz1, hz2, hz3⟩ := hg.keys z hzm
            have P1 := HG.out.next ((Below.refl _ wr).drew)
            clear X0 C1 C2 C3 HG bw
            generalize wr.drew = wp at *
            obtain ⟨C1, C2, C3⟩ := P1.held
            obtain ⟨C4, C5⟩ := P1.item hget
            have KP : ∀ w', Below wp.heap.size wp w' → Calls Try.prog 9 #[.agg #[.int .i64 wd', .pointer qv], .string (str z.1), .string (str [120])] w' fun e w'' => ∃ q', e = .returned (.tuple #[.agg #[.int .i64 wd', .pointer q'], .int .i64 0]) ∧ TopAt wd' w'' (.pointer q') (putO z.1 [120] v) ∧ Below w'.heap.size w' w'' := fun w' hb => put_any wd' qv v z.1 [120] w' hw' hz1 (by decide) KI.good (TopAt.below hb P1.topV)
            have HG := show Hid (OAt _ _ _ _ _ _ _ _ _ _ _) from P1
            clear P1 zu zv
            go_upto_region 10 with fail
            have hHeld : Below wp.heap.size wp wp.drew := (Below.refl _ _).drew
            refine wp_region_late (fun w' => Below wp.heap.size wp w') 11 (by kernel_rfl) ?_
            refine wpAnyM_take (i := 0) (v := ?_) rfl (by kernel_rfl) (by kernel_rfl) (by kernel_rfl) (by kernel_rfl) (by decide) (by kernel_rfl) (fun _ _ _ h => h) (Or.inl ⟨by kernel_rfl, ?_⟩) (by assumption) ?_
            rotate_left
            · intro w' hSw
              have y1 := C1 _ hSw
              have y2 := C2 _ hSw
              have y3 := C3 _ hSw
              have y4 := C4 _ hSw
              have y5 := C5 _ hSw
              go_simp
              try (with_reducible rfl)
            simp only [Act.put, List.getElem_toArray, List.getElem_cons_succ, List.getElem_cons_zero, List.setIfInBounds_toArray, List.set_cons_zero, List.set_cons_succ]
            refine wpAnyM_take (i := 1) (v := ?_) rfl (by kernel_rfl) (by kernel_rfl) (by kernel_rfl) (by kernel_rfl) (by decide) (by kernel_rfl) (fun _ _ _ h => h) (Or.inl ⟨by kernel_rfl, ?_⟩) (by assumption) ?_
            rotate_left
            · intro w' hSw
              have y1 := C1 _ hSw
              have y2 := C2 _ hSw
              have y3 := C3 _ hSw
              have y4 := C4 _ hSw
              have y5 := C5 _ hSw
              go_simp
              try (with_reducible rfl)
            simp only [Act.put, List.getElem_toArray, List.getElem_cons_succ, List.getElem_cons_zero, List.setIfInBounds_toArray, List.set_cons_zero, List.set_cons_succ]
            refine wpAnyM_take (i := 2) (v := ?_) rfl (by kernel_rfl) (by kernel_rfl) (by kernel_rfl) (by kernel_rfl) (by decide) (by kernel_rfl) (fun _ _ _ h => h) (Or.inl ⟨by kernel_rfl, ?_⟩) (by assumption) ?_
            rotate_left
            · intro w' hSw
              have y1 := C1 _ hSw
              have y2 := C2 _ hSw
              have y3 := C3 _ hSw
              have y4 := C4 _ hSw
              have y5 := C5 _ hSw
              go_simp
              try (with_reducible rfl)
            simp only [Act.put, List.getElem_toArray, List.getElem_cons_succ, List.getElem_cons_zero, List.setIfInBounds_toArray, List.set_cons_zero, List.set_cons_succ]
            refine wpAnyM_take (i := 3) (v := ?_) rfl (by kernel_rfl) (by kernel_rfl) (by kernel_rfl) (by kernel_rfl) (by decide) (by kernel_rfl) (fun _ _ _ h => h) (Or.inl ⟨by kernel_rfl, ?_⟩) (by assumption) ?_
            rotate_left
            · intro w' hSw
              have y1 := C1 _ hSw
              have y2 := C2 _ hSw
              have y3 := C3 _ hSw
              have y4 := C4 _ hSw
              have y5 := C5 _ hSw
              go_simp
              try (with_reducible rfl)
            simp only [Act.put, List.getElem_toArray, List.getElem_cons_succ, List.getElem_cons_zero, List.setIfInBounds_toArray, List.set_cons_zero, List.set_cons_succ]
            refine wpAnyM_take (i := 4) (v := ?_) rfl (by kernel_rfl) (by kernel_rfl) (by kernel_rfl) (by kernel_rfl) (by decide) (by kernel_rfl) (fun _ _ _ h => h) (Or.inl ⟨by kernel_rfl, ?_⟩) (by assumption) ?_
            rotate_left
            · intro w' hSw
              have y1 := C1 _ hSw
              have y2 := C2 _ hSw
              have y3 := C3 _ hSw
              have y4 := C4 _ hSw
              have y5 := C5 _ hSw
              go_simp
              try (with_reducible rfl)
            simp only [Act.put, List.getElem_toArray, List.getElem_cons_succ, List.getElem_cons_zero, List.setIfInBounds_toArray, List.set_cons_zero, List.set_cons_succ]
            refine wpAnyM_take (i := 5) (v := ?_) rfl (by kernel_rfl) (by kernel_rfl) (by kernel_rfl) (by kernel_rfl) (by decide) (by kernel_rfl) (fun _ _ _ h => h) (Or.inl ⟨by kernel_rfl, ?_⟩) (by assumption) ?_
            rotate_left
            · intro w' hSw
              have y1 := C1 _ hSw
              have y2 := C2 _ hSw
              have y3 := C3 _ hSw
              have y4 := C4 _ hSw
              have y5 := C5 _ hSw
              go_simp
              try (with_reducible rfl)
            simp only [Act.put, List.getElem_toArray, List.getElem_cons_succ, List.getElem_cons_zero, List.setIfInBounds_toArray, List.set_cons_zero, List.set_cons_succ]
            refine wpAnyM_take (i := 6) (v := ?_) rfl (by kernel_rfl) (by kernel_rfl) (by kernel_rfl) (by kernel_rfl) (by decide) (by kernel_rfl) (fun _ _ _ h => h) (Or.inl ⟨by kernel_rfl, ?_⟩) (by assumption) ?_
            rotate_left
            · intro w' hSw
              have y1 := C1 _ hSw
              have y2 := C2 _ hSw
              have y3 := C3 _ hSw
              have y4 := C4 _ hSw
              have y5 := C5 _ hSw
              go_simp
              try (with_reducible rfl)
            simp only [Act.put, List.getElem_toArray, List.getElem_cons_succ, List.getElem_cons_zero, List.setIfInBounds_toArray, List.set_cons_zero, List.set_cons_succ]
            refine wpAnyM_one (i := 7) (by kernel_rfl) ?_
            refine wpOp_step rfl (fun K hK => ?_)
            go_simp
            refine (KP _ (by assumption)).mono ?_
            rintro e w5 ⟨q5, rfl, hT5, b5⟩
            have hN : Below wp.heap.size wp w5 := hHeld.trans (b5.mono hHeld.size)
            refine hK _ _ ⟨fun _ => hN, ?_⟩
            clear hK K
            try simp only [Act.put, List.getElem_toArray, List.getElem_cons_succ, List.getElem_cons_zero, List.setIfInBounds_toArray, List.set_cons_zero, List.set_cons_succ]
            refine wpAnyM_pure (i := 8) (v := ?_) rfl (by kernel_rfl) (by kernel_rfl) (by kernel_rfl) (by decide) (fun _ _ _ h => h) (Or.inl ⟨by kernel_rfl, ?_⟩) (by assumption) ?_
            rotate_left
            · intro w' _
              go_simp
              try (with_reducible rfl)
            simp only [Act.put, List.getElem_toArray, List.getElem_cons_succ, List.getElem_cons_zero, List.setIfInBounds_toArray, List.set_cons_zero, List.set_cons_succ]
            refine wpAnyM_pure (i := 9) (v := ?_) rfl (by kernel_rfl) (by kernel_rfl) (by kernel_rfl) (by decide) (fun _ _ _ h => h) (Or.inl ⟨by kernel_rfl, ?_⟩) (by assumption) ?_
            rotate_left
            · intro w' _
              go_simp
              try (with_reducible rfl)
            simp only [Act.put, List.getElem_toArray, List.getElem_cons_succ, List.getElem_cons_zero, List.setIfInBounds_toArray, List.set_cons_zero, List.set_cons_succ]
            refine wpAnyM_pure (i := 10) (v := ?_) rfl (by kernel_rfl) (by kernel_rfl) (by kernel_rfl) (by decide) (fun _ _ _ h => h) (Or.inl ⟨by kernel_rfl, ?_⟩) (by assumption) ?_
            rotate_left
            · intro w' _
              go_simp
              try (with_reducible rfl)
            simp only [Act.put, List.getElem_toArray, List.getElem_cons_succ, List.getElem_cons_zero, List.setIfInBounds_toArray, List.set_cons_zero, List.set_cons_succ]
            have G5 := (HG.out.next hN).set hT5
            obtain ⟨y0, y1, _, _⟩ := (HG.out.next hN).facts
            have yl := (HG.out.next hN).vb.lt
            have yf0 := (HG.out.next hN).vb.frozen 0
            have yf1 := (HG.out.next hN).vb.frozen 1
            refine wpAnyM_one (i := 11) (by kernel_rfl) ?_
            refine wpOp_step rfl (fun K hK => ?_)
            go_simp
            refine hK _ _ ⟨fun h => absurd h (by decide), ?_⟩
            clear hK K
            refine wpAnyM_done (by kernel_rfl) ?_ _
            try simp only [Exit.then]
            clear y0 y1 yl yf0 yf1
            have K5 := KI.put hzm [120] hz1 (by decide)
            generalize (w5.setCell ⟨bv, 0, none⟩ (.int .i64 wd')).setCell ⟨bv, 1, none⟩ (.pointer q5) = wq at *
            have xq := HX.out wq G5.below
            clear hT5 b5 hN KP C1 C2 C3 C4 C5 HG hHeld KI
            generalize putO z.1 [120] v = v5 at *
            by_cases h3 : x.tmod 3 = 0
            · have P1 := G5
              obtain ⟨C1, C2, C3⟩ := P1.held
              obtain ⟨C4, C5⟩ := P1.item hget
              have KP : ∀ w', Below wq.heap.size wq w' → Calls Try.prog 9 #[.agg #[.int .i64 wd', .pointer q5], .string (str z.1), .string (str [])] w' fun e w'' => ∃ q', e = .returned (.tuple #[.agg #[.int .i64 wd', .pointer q'], .int .i64 0]) ∧ TopAt wd' w'' (.pointer q') (putO z.1 [] v5) ∧ Below w'.heap.size w' w'' := fun w' hb => put_any wd' q5 v5 z.1 [] w' hw' hz1 (by decide) K5.good (TopAt.below hb P1.topV)
              have HG := show Hid (OAt _ _ _ _ _ _ _ _ _ _ _) from P1
              clear P1 G5
              go_upto_region 12 with fail
              have hHeld : Below wq.heap.size wq wq.drew := (Below.refl _ _).drew
              refine wp_region_late (fun w' => Below wq.heap.size wq w') 11 (by kernel_rfl) ?_
              refine wpAnyM_take (i := 0) (v := ?_) rfl (by kernel_rfl) (by kernel_rfl) (by kernel_rfl) (by kernel_rfl) (by decide) (by kernel_rfl) (fun _ _ _ h => h) (Or.inl ⟨by kernel_rfl, ?_⟩) (by assumption) ?_
              rotate_left
              · intro w' hSw
                have y1 := C1 _ hSw
                have y2 := C2 _ hSw
                have y3 := C3 _ hSw
                have y4 := C4 _ hSw
                have y5 := C5 _ hSw
                go_simp
                try (with_reducible rfl)
              simp only [Act.put, List.getElem_toArray, List.getElem_cons_succ, List.getElem_cons_zero, List.setIfInBounds_toArray, List.set_cons_zero, List.set_cons_succ]
              refine wpAnyM_take (i := 1) (v := ?_) rfl (by kernel_rfl) (by kernel_rfl) (by kernel_rfl) (by kernel_rfl) (by decide) (by kernel_rfl) (fun _ _ _ h => h) (Or.inl ⟨by kernel_rfl, ?_⟩) (by assumption) ?_
              rotate_left
              · intro w' hSw
                have y1 := C1 _ hSw
                have y2 := C2 _ hSw
                have y3 := C3 _ hSw
                have y4 := C4 _ hSw
                have y5 := C5 _ hSw
                go_simp
                try (with_reducible rfl)
              simp only [Act.put, List.getElem_toArray, List.getElem_cons_succ, List.getElem_cons_zero, List.setIfInBounds_toArray, List.set_cons_zero, List.set_cons_succ]
              refine wpAnyM_take (i := 2) (v := ?_) rfl (by kernel_rfl) (by kernel_rfl) (by kernel_rfl) (by kernel_rfl) (by decide) (by kernel_rfl) (fun _ _ _ h => h) (Or.inl ⟨by kernel_rfl, ?_⟩) (by assumption) ?_
              rotate_left
              · intro w' hSw
                have y1 := C1 _ hSw
                have y2 := C2 _ hSw
                have y3 := C3 _ hSw
                have y4 := C4 _ hSw
                have y5 := C5 _ hSw
                go_simp
                try (with_reducible rfl)
              simp only [Act.put, List.getElem_toArray, List.getElem_cons_succ, List.getElem_cons_zero, List.setIfInBounds_toArray, List.set_cons_zero, List.set_cons_succ]
              refine wpAnyM_take (i := 3) (v := ?_) rfl (by kernel_rfl) (by kernel_rfl) (by kernel_rfl) (by kernel_rfl) (by decide) (by kernel_rfl) (fun _ _ _ h => h) (Or.inl ⟨by kernel_rfl, ?_⟩) (by assumption) ?_
              rotate_left
              · intro w' hSw
                have y1 := C1 _ hSw
                have y2 := C2 _ hSw
                have y3 := C3 _ hSw
                have y4 := C4 _ hSw
                have y5 := C5 _ hSw
                go_simp
                try (with_reducible rfl)
              simp only [Act.put, List.getElem_toArray, List.getElem_cons_succ, List.getElem_cons_zero, List.setIfInBounds_toArray, List.set_cons_zero, List.set_cons_succ]
              refine wpAnyM_take (i := 4) (v := ?_) rfl (by kernel_rfl) (by kernel_rfl) (by kernel_rfl) (by kernel_rfl) (by decide) (by kernel_rfl) (fun _ _ _ h => h) (Or.inl ⟨by kernel_rfl, ?_⟩) (by assumption) ?_
              rotate_left
              · intro w' hSw
                have y1 := C1 _ hSw
                have y2 := C2 _ hSw
                have y3 := C3 _ hSw
                have y4 := C4 _ hSw
                have y5 := C5 _ hSw
                go_simp
                try (with_reducible rfl)
              simp only [Act.put, List.getElem_toArray, List.getElem_cons_succ, List.getElem_cons_zero, List.setIfInBounds_toArray, List.set_cons_zero, List.set_cons_succ]
              refine wpAnyM_take (i := 5) (v := ?_) rfl (by kernel_rfl) (by kernel_rfl) (by kernel_rfl) (by kernel_rfl) (by decide) (by kernel_rfl) (fun _ _ _ h => h) (Or.inl ⟨by kernel_rfl, ?_⟩) (by assumption) ?_
              rotate_left
              · intro w' hSw
                have y1 := C1 _ hSw
                have y2 := C2 _ hSw
                have y3 := C3 _ hSw
                have y4 := C4 _ hSw
                have y5 := C5 _ hSw
                go_simp
                try (with_reducible rfl)
              simp only [Act.put, List.getElem_toArray, List.getElem_cons_succ, List.getElem_cons_zero, List.setIfInBounds_toArray, List.set_cons_zero, List.set_cons_succ]
              refine wpAnyM_take (i := 6) (v := ?_) rfl (by kernel_rfl) (by kernel_rfl) (by kernel_rfl) (by kernel_rfl) (by decide) (by kernel_rfl) (fun _ _ _ h => h) (Or.inl ⟨by kernel_rfl, ?_⟩) (by assumption) ?_
              rotate_left
              · intro w' hSw
                have y1 := C1 _ hSw
                have y2 := C2 _ hSw
                have y3 := C3 _ hSw
                have y4 := C4 _ hSw
                have y5 := C5 _ hSw
                go_simp
                try (with_reducible rfl)
              simp only [Act.put, List.getElem_toArray, List.getElem_cons_succ, List.getElem_cons_zero, List.setIfInBounds_toArray, List.set_cons_zero, List.set_cons_succ]
              refine wpAnyM_one (i := 7) (by kernel_rfl) ?_
              refine wpOp_step rfl (fun K hK => ?_)
              go_simp
              refine (KP _ (by assumption)).mono ?_
              rintro e w6 ⟨q6, rfl, hT6, b6⟩
              have hN : Below wq.heap.size wq w6 := hHeld.trans (b6.mono hHeld.size)
              refine hK _ _ ⟨fun _ => hN, ?_⟩
              clear hK K
              try simp only [Act.put, List.getElem_toArray, List.getElem_cons_succ, List.getElem_cons_zero, List.setIfInBounds_toArray, List.set_cons_zero, List.set_cons_succ]
              refine wpAnyM_pure (i := 8) (v := ?_) rfl (by kernel_rfl) (by kernel_rfl) (by kernel_rfl) (by decide) (fun _ _ _ h => h) (Or.inl ⟨by kernel_rfl, ?_⟩) (by assumption) ?_
              rotate_left
              · intro w' _
                go_simp
                try (with_reducible rfl)
              simp only [Act.put, List.getElem_toArray, List.getElem_cons_succ, List.getElem_cons_zero, List.setIfInBounds_toArray, List.set_cons_zero, List.set_cons_succ]
              refine wpAnyM_pure (i := 9) (v := ?_) rfl (by kernel_rfl) (by kernel_rfl) (by kernel_rfl) (by decide) (fun _ _ _ h => h) (Or.inl ⟨by kernel_rfl, ?_⟩) (by assumption) ?_
              rotate_left
              · intro w' _
                go_simp
                try (with_reducible rfl)
              simp only [Act.put, List.getElem_toArray, List.getElem_cons_succ, List.getElem_cons_zero, List.setIfInBounds_toArray, List.set_cons_zero, List.set_cons_succ]
              refine wpAnyM_pure (i := 10) (v := ?_) rfl (by kernel_rfl) (by kernel_rfl) (by kernel_rfl) (by decide) (fun _ _ _ h => h) (Or.inl ⟨by kernel_rfl, ?_⟩) (by assumption) ?_
              rotate_left
              · intro w' _
                go_simp
                try (with_reducible rfl)
              simp only [Act.put, List.getElem_toArray, List.getElem_cons_succ, List.getElem_cons_zero, List.setIfInBounds_toArray, List.set_cons_zero, List.set_cons_succ]
              have G6 := (HG.out.next hN).set hT6
              obtain ⟨y0, y1, _, _⟩ := (HG.out.next hN).facts
              have yl := (HG.out.next hN).vb.lt
              have yf0 := (HG.out.next hN).vb.frozen 0
              have yf1 := (HG.out.next hN).vb.frozen 1
              refine wpAnyM_one (i := 11) (by kernel_rfl) ?_
              refine wpOp_step rfl (fun K hK => ?_)
              go_simp
              refine hK _ _ ⟨fun h => absurd h (by decide), ?_⟩
              clear hK K
              refine wpAnyM_done (by kernel_rfl) ?_ _
              try simp only [Exit.then]
              clear y0 y1 yl yf0 yf1
              have K6 := K5.put hzm [] hz1 (by decide)
              generalize (w6.setCell ⟨bv, 0, none⟩ (.int .i64 wd')).setCell ⟨bv, 1, none⟩ (.pointer q6) = wz at *
              clear hT6 b6 hN KP C1 C2 C3 C4 C5 HG hHeld K5 xq
              generalize putO z.1 [] v5 = v6 at *
              go_wp2
              exact ⟨⟨i + 1, v6, q6, by omega, by go_num, K6, G6⟩, by simp [intOf]; omega⟩
            · have h3b : (x.tmod 3 == 0) = false := by simp [h3]
              clear h3
              have HG := show Hid (OAt _ _ _ _ _ _ _ _ _ _ _) from G5
              clear G5
              go_wp2
              exact ⟨⟨i + 1, v5, q5, by omega, by go_num, K5, HG.out⟩, by simp [intOf]; omega⟩
          · have hz' : ¬ ((itemsO o).length : Int) > 0 := by omega
            have HG := show Hid (OAt _ _ _ _ _ _ _ _ _ _ _) from G
            clear G v0 v1 u0
            have KF := KI.start
            clear KI
            go_upto_region 13 with fail
            go_wp2_with fail
            generalize wr = wl at *
            have hj0 : ((itemsO o).length : Int) - 1 + 1 = ((itemsO o).length : Nat) := by omega
            go_loopw [12] (fun jv wv => ∃ (n : Nat) (j : Int) (v : Option Tr) (qv : Option Addr), n ≤ (itemsO o).length ∧ jv = .int .i64 j ∧ j + 1 = (n : Int) ∧ FromOn (itemsO o) n v ∧ OAt w bt bv wd' q qv ua uc o v wv) (fun jv _ => (intOf jv + 1).toNat)
            case atStart => exact ⟨(itemsO o).length, _, v, qv, Nat.le_refl _, rfl, hj0, KF, HG.out⟩
            case round =>
              clear KF HG hj0
              obtain ⟨n, j, v, qv, hn, rfl, hjn, KF, G⟩ := hrel
              cases n with
              | succ k =>
                have ej : j = (k : Int) := by omega
                subst ej
                clear hjn
                have hb1 : (k : Int) ≤ 1024 := by omega
                have hb0 : (0 : Int) ≤ (k : Int) := by omega
                have hkl : k < (itemsO o).length := by omega
                have hkl' : (k : Int) < ((itemsO o).length : Int) := by omega
                have hget := List.getElem?_eq_getElem hkl
                have hzm := List.getElem_mem hkl
                obtain ⟨hz1, hz2, hz3⟩ := hg.keys _ hzm
                have K5 := KF.put hg.sorted hkl hz1 hz2 hz3
                obtain ⟨z, ez⟩ : ∃ z, (itemsO o)[k] = z := ⟨_, rfl⟩
                rw [ez] at hget hz1 hz2 K5
                clear ez hzm hz3
                obtain ⟨ub, uo, eu⟩ := G.some (by omega)
                subst eu
                obtain ⟨C1, C2, C3⟩ := G.held
                obtain ⟨C4, C5⟩ := G.item hget
                have KP : ∀ w', Below wr.heap.size wr w' → Calls Try.prog 9 #[.agg #[.int .i64 wd', .pointer qv], .string (str z.1), .string (str z.2)] w' fun e w'' => ∃ q', e = .returned (.tuple #[.agg #[.int .i64 wd', .pointer q'], .int .i64 0]) ∧ TopAt wd' w'' (.pointer q') (putO z.1 z.2 v) ∧ Below w'.heap.size w' w'' := fun w' hb => put_any wd' qv v z.1 z.2 w' hw' hz1 hz2 KF.keysIn.good (TopAt.below hb G.topV)
                have HG := show Hid (OAt _ _ _ _ _ _ _ _ _ _ _) from G
                clear G hget KF
                go_upto_region 16 with fail
                have hHeld : Below wr.heap.size wr wr.drew := (Below.refl _ _).drew
                refine wp_region_late (fun w' => Below wr.heap.size wr w') 17 (by kernel_rfl) ?_
                refine wpAnyM_take (i := 0) (v := ?_) rfl (by kernel_rfl) (by kernel_rfl) (by kernel_rfl) (by kernel_rfl) (by decide) (by kernel_rfl) (fun _ _ _ h => h) (Or.inl ⟨by kernel_rfl, ?_⟩) (by assumption) ?_
                rotate_left
                · intro w' hSw
                  have y1 := C1 _ hSw
                  have y2 := C2 _ hSw
                  have y3 := C3 _ hSw
                  have y4 := C4 _ hSw
                  have y5 := C5 _ hSw
                  go_simp
                  try (with_reducible rfl)
                simp only [Act.put, List.getElem_toArray, List.getElem_cons_succ, List.getElem_cons_zero, List.setIfInBounds_toArray, List.set_cons_zero, List.set_cons_succ]
                refine wpAnyM_take (i := 1) (v := ?_) rfl (by kernel_rfl) (by kernel_rfl) (by kernel_rfl) (by kernel_rfl) (by decide) (by kernel_rfl) (fun _ _ _ h => h) (Or.inl ⟨by kernel_rfl, ?_⟩) (by assumption) ?_
                rotate_left
                · intro w' hSw
                  have y1 := C1 _ hSw
                  have y2 := C2 _ hSw
                  have y3 := C3 _ hSw
                  have y4 := C4 _ hSw
                  have y5 := C5 _ hSw
                  go_simp
                  try (with_reducible rfl)
                simp only [Act.put, List.getElem_toArray, List.getElem_cons_succ, List.getElem_cons_zero, List.setIfInBounds_toArray, List.set_cons_zero, List.set_cons_succ]
                refine wpAnyM_take (i := 2) (v := ?_) rfl (by kernel_rfl) (by kernel_rfl) (by kernel_rfl) (by kernel_rfl) (by decide) (by kernel_rfl) (fun _ _ _ h => h) (Or.inl ⟨by kernel_rfl, ?_⟩) (by assumption) ?_
                rotate_left
                · intro w' hSw
                  have y1 := C1 _ hSw
                  have y2 := C2 _ hSw
                  have y3 := C3 _ hSw
                  have y4 := C4 _ hSw
                  have y5 := C5 _ hSw
                  go_simp
                  try (with_reducible rfl)
                simp only [Act.put, List.getElem_toArray, List.getElem_cons_succ, List.getElem_cons_zero, List.setIfInBounds_toArray, List.set_cons_zero, List.set_cons_succ]
                refine wpAnyM_take (i := 3) (v := ?_) rfl (by kernel_rfl) (by kernel_rfl) (by kernel_rfl) (by kernel_rfl) (by decide) (by kernel_rfl) (fun _ _ _ h => h) (Or.inl ⟨by kernel_rfl, ?_⟩) (by assumption) ?_
                rotate_left
                · intro w' hSw
                  have y1 := C1 _ hSw
                  have y2 := C2 _ hSw
                  have y3 := C3 _ hSw
                  have y4 := C4 _ hSw
                  have y5 := C5 _ hSw
                  go_simp
                  try (with_reducible rfl)
                simp only [Act.put, List.getElem_toArray, List.getElem_cons_succ, List.getElem_cons_zero, List.setIfInBounds_toArray, List.set_cons_zero, List.set_cons_succ]
                refine wpAnyM_take (i := 4) (v := ?_) rfl (by kernel_rfl) (by kernel_rfl) (by kernel_rfl) (by kernel_rfl) (by decide) (by kernel_rfl) (fun _ _ _ h => h) (Or.inl ⟨by kernel_rfl, ?_⟩) (by assumption) ?_
                rotate_left
                · intro w' hSw
                  have y1 := C1 _ hSw
                  have y2 := C2 _ hSw
                  have y3 := C3 _ hSw
                  have y4 := C4 _ hSw
                  have y5 := C5 _ hSw
                  go_simp
                  try (with_reducible rfl)
                simp only [Act.put, List.getElem_toArray, List.getElem_cons_succ, List.getElem_cons_zero, List.setIfInBounds_toArray, List.set_cons_zero, List.set_cons_succ]
                refine wpAnyM_take (i := 5) (v := ?_) rfl (by kernel_rfl) (by kernel_rfl) (by kernel_rfl) (by kernel_rfl) (by decide) (by kernel_rfl) (fun _ _ _ h => h) (Or.inl ⟨by kernel_rfl, ?_⟩) (by assumption) ?_
                rotate_left
                · intro w' hSw
                  have y1 := C1 _ hSw
                  have y2 := C2 _ hSw
                  have y3 := C3 _ hSw
                  have y4 := C4 _ hSw
                  have y5 := C5 _ hSw
                  go_simp
                  try (with_reducible rfl)
                simp only [Act.put, List.getElem_toArray, List.getElem_cons_succ, List.getElem_cons_zero, List.setIfInBounds_toArray, List.set_cons_zero, List.set_cons_succ]
                refine wpAnyM_take (i := 6) (v := ?_) rfl (by kernel_rfl) (by kernel_rfl) (by kernel_rfl) (by kernel_rfl) (by decide) (by kernel_rfl) (fun _ _ _ h => h) (Or.inl ⟨by kernel_rfl, ?_⟩) (by assumption) ?_
                rotate_left
                · intro w' hSw
                  have y1 := C1 _ hSw
                  have y2 := C2 _ hSw
                  have y3 := C3 _ hSw
                  have y4 := C4 _ hSw
                  have y5 := C5 _ hSw
                  go_simp
                  try (with_reducible rfl)
                simp only [Act.put, List.getElem_toArray, List.getElem_cons_succ, List.getElem_cons_zero, List.setIfInBounds_toArray, List.set_cons_zero, List.set_cons_succ]
                refine wpAnyM_take (i := 7) (v := ?_) rfl (by kernel_rfl) (by kernel_rfl) (by kernel_rfl) (by kernel_rfl) (by decide) (by kernel_rfl) (fun _ _ _ h => h) (Or.inl ⟨by kernel_rfl, ?_⟩) (by assumption) ?_
                rotate_left
                · intro w' hSw
                  have y1 := C1 _ hSw
                  have y2 := C2 _ hSw
                  have y3 := C3 _ hSw
                  have y4 := C4 _ hSw
                  have y5 := C5 _ hSw
                  go_simp
                  try (with_reducible rfl)
                simp only [Act.put, List.getElem_toArray, List.getElem_cons_succ, List.getElem_cons_zero, List.setIfInBounds_toArray, List.set_cons_zero, List.set_cons_succ]
                refine wpAnyM_take (i := 8) (v := ?_) rfl (by kernel_rfl) (by kernel_rfl) (by kernel_rfl) (by kernel_rfl) (by decide) (by kernel_rfl) (fun _ _ _ h => h) (Or.inl ⟨by kernel_rfl, ?_⟩) (by assumption) ?_
                rotate_left
                · intro w' hSw
                  have y1 := C1 _ hSw
                  have y2 := C2 _ hSw
                  have y3 := C3 _ hSw
                  have y4 := C4 _ hSw
                  have y5 := C5 _ hSw
                  go_simp
                  try (with_reducible rfl)
                simp only [Act.put, List.getElem_toArray, List.getElem_cons_succ, List.getElem_cons_zero, List.setIfInBounds_toArray, List.set_cons_zero, List.set_cons_succ]
                refine wpAnyM_take (i := 9) (v := ?_) rfl (by kernel_rfl) (by kernel_rfl) (by kernel_rfl) (by kernel_rfl) (by decide) (by kernel_rfl) (fun _ _ _ h => h) (Or.inl ⟨by kernel_rfl, ?_⟩) (by assumption) ?_
                rotate_left
                · intro w' hSw
                  have y1 := C1 _ hSw
                  have y2 := C2 _ hSw
                  have y3 := C3 _ hSw
                  have y4 := C4 _ hSw
                  have y5 := C5 _ hSw
                  go_simp
                  try (with_reducible rfl)
                simp only [Act.put, List.getElem_toArray, List.getElem_cons_succ, List.getElem_cons_zero, List.setIfInBounds_toArray, List.set_cons_zero, List.set_cons_succ]
                refine wpAnyM_take (i := 10) (v := ?_) rfl (by kernel_rfl) (by kernel_rfl) (by kernel_rfl) (by kernel_rfl) (by decide) (by kernel_rfl) (fun _ _ _ h => h) (Or.inl ⟨by kernel_rfl, ?_⟩) (by assumption) ?_
                rotate_left
                · intro w' hSw
                  have y1 := C1 _ hSw
                  have y2 := C2 _ hSw
                  have y3 := C3 _ hSw
                  have y4 := C4 _ hSw
                  have y5 := C5 _ hSw
                  go_simp
                  try (with_reducible rfl)
                simp only [Act.put, List.getElem_toArray, List.getElem_cons_succ, List.getElem_cons_zero, List.setIfInBounds_toArray, List.set_cons_zero, List.set_cons_succ]
                refine wpAnyM_take (i := 11) (v := ?_) rfl (by kernel_rfl) (by kernel_rfl) (by kernel_rfl) (by kernel_rfl) (by decide) (by kernel_rfl) (fun _ _ _ h => h) (Or.inl ⟨by kernel_rfl, ?_⟩) (by assumption) ?_
                rotate_left
                · intro w' hSw
                  have y1 := C1 _ hSw
                  have y2 := C2 _ hSw
                  have y3 := C3 _ hSw
                  have y4 := C4 _ hSw
                  have y5 := C5 _ hSw
                  go_simp
                  try (with_reducible rfl)
                simp only [Act.put, List.getElem_toArray, List.getElem_cons_succ, List.getElem_cons_zero, List.setIfInBounds_toArray, List.set_cons_zero, List.set_cons_succ]
                refine wpAnyM_take (i := 12) (v := ?_) rfl (by kernel_rfl) (by kernel_rfl) (by kernel_rfl) (by kernel_rfl) (by decide) (by kernel_rfl) (fun _ _ _ h => h) (Or.inl ⟨by kernel_rfl, ?_⟩) (by assumption) ?_
                rotate_left
                · intro w' hSw
                  have y1 := C1 _ hSw
                  have y2 := C2 _ hSw
                  have y3 := C3 _ hSw
                  have y4 := C4 _ hSw
                  have y5 := C5 _ hSw
                  go_simp
                  try (with_reducible rfl)
                simp only [Act.put, List.getElem_toArray, List.getElem_cons_succ, List.getElem_cons_zero, List.setIfInBounds_toArray, List.set_cons_zero, List.set_cons_succ]
                refine wpAnyM_one (i := 13) (by kernel_rfl) ?_
                refine wpOp_step rfl (fun K hK => ?_)
                go_simp
                refine (KP _ (by assumption)).mono ?_
                rintro e w5 ⟨q5, rfl, hT5, b5⟩
                have hN : Below wr.heap.size wr w5 := hHeld.trans (b5.mono hHeld.size)
                refine hK _ _ ⟨fun _ => hN, ?_⟩
                clear hK K
                try simp only [Act.put, List.getElem_toArray, List.getElem_cons_succ, List.getElem_cons_zero, List.setIfInBounds_toArray, List.set_cons_zero, List.set_cons_succ]
                refine wpAnyM_pure (i := 14) (v := ?_) rfl (by kernel_rfl) (by kernel_rfl) (by kernel_rfl) (by decide) (fun _ _ _ h => h) (Or.inl ⟨by kernel_rfl, ?_⟩) (by assumption) ?_
                rotate_left
                · intro w' _
                  go_simp
                  try (with_reducible rfl)
                simp only [Act.put, List.getElem_toArray, List.getElem_cons_succ, List.getElem_cons_zero, List.setIfInBounds_toArray, List.set_cons_zero, List.set_cons_succ]
                refine wpAnyM_pure (i := 15) (v := ?_) rfl (by kernel_rfl) (by kernel_rfl) (by kernel_rfl) (by decide) (fun _ _ _ h => h) (Or.inl ⟨by kernel_rfl, ?_⟩) (by assumption) ?_
                rotate_left
                · intro w' _
                  go_simp
                  try (with_reducible rfl)
                simp only [Act.put, List.getElem_toArray, List.getElem_cons_succ, List.getElem_cons_zero, List.setIfInBounds_toArray, List.set_cons_zero, List.set_cons_succ]
                refine wpAnyM_pure (i := 16) (v := ?_) rfl (by kernel_rfl) (by kernel_rfl) (by kernel_rfl) (by decide) (fun _ _ _ h => h) (Or.inl ⟨by kernel_rfl, ?_⟩) (by assumption) ?_
                rotate_left
                · intro w' _
                  go_simp
                  try (with_reducible rfl)
                simp only [Act.put, List.getElem_toArray, List.getElem_cons_succ, List.getElem_cons_zero, List.setIfInBounds_toArray, List.set_cons_zero, List.set_cons_succ]
                have G5 := (HG.out.next hN).set hT5
                obtain ⟨y0, y1, _, _⟩ := (HG.out.next hN).facts
                have yl := (HG.out.next hN).vb.lt
                have yf0 := (HG.out.next hN).vb.frozen 0
                have yf1 := (HG.out.next hN).vb.frozen 1
                refine wpAnyM_one (i := 17) (by kernel_rfl) ?_
                refine wpOp_step rfl (fun K hK => ?_)
                go_simp
                refine hK _ _ ⟨fun h => absurd h (by decide), ?_⟩
                clear hK K
                refine wpAnyM_done (by kernel_rfl) ?_ _
                try simp only [Exit.then]
                clear y0 y1 yl yf0 yf1
                generalize (w5.setCell ⟨bv, 0, none⟩ (.int .i64 wd')).setCell ⟨bv, 1, none⟩ (.pointer q5) = wq at *
                clear hT5 b5 hN KP C1 C2 C3 C4 C5 HG hHeld
                generalize putO z.1 z.2 v = v5 at *
                go_wp2
                exact ⟨⟨k, (k : Int) - 1, v5, q5, by omega, by go_num, by omega, K5, G5⟩, by simp [intOf]⟩
              | zero =>
                have ej : j = -1 := by omega
                subst ej
                have ev := KF.same hg
                subst ev
                clear hjn KF
                have t0 := (G.t.cell 0).trans rfl
                have t1 := (G.t.cell 1).trans rfl
                have HG := show Hid (OAt _ _ _ _ _ _ _ _ _ _ _) from G
                clear G
                go_wp2_with fail
                refine (root_any wd' q v _ hw' HG.out.topT).mono ?_
                rintro e w5 ⟨rfl, b5⟩
                have G := HG.out.next b5
                clear HG t0 t1
                have t0 := (G.vb.cell 0).trans rfl
                have t1 := (G.vb.cell 1).trans rfl
                have HG := show Hid (OAt _ _ _ _ _ _ _ _ _ _ _) from G
                clear G b5
                go_wp2_with fail
                refine (root_any wd' qv v _ hw' HG.out.topV).mono ?_
                rintro e w6 ⟨rfl, b6⟩
                have G := HG.out.next b6
                clear HG t0 t1
                have t0 := (G.t.cell 0).trans rfl
                have t1 := (G.t.cell 1).trans rfl
                have HG := show Hid (OAt _ _ _ _ _ _ _ _ _ _ _) from G
                clear G b6
                have hlen : (itemsO v).length ≤ 100000 := by omega
                have hkey : ∀ x ∈ itemsO v, x.1.length ≤ 4096 := fun x hx => by have := (hg.keys x hx).1; omega
                go_wp2_with fail
                refine (items_any wd' q v _ HG.out.topT hlen hkey).mono ?_
                rintro e w7 ⟨cv, rfl, hr7, b7⟩
                obtain ⟨ca, cc, rfl, hI7⟩ := ItemsAt.of_owns hr7
                clear hr7
                have G := HG.out.next b7
                clear HG t0 t1
                have t0 := (G.vb.cell 0).trans rfl
                have t1 := (G.vb.cell 1).trans rfl
                have HG := show Hid (OAt _ _ _ _ _ _ _ _ _ _ _) from G
                clear G
                go_wp2_with fail
                refine (items_any wd' qv v _ HG.out.topV hlen hkey).mono ?_
                rintro e w8 ⟨dv, rfl, hr8', b8⟩
                obtain ⟨da, dc, rfl, hI8⟩ := ItemsAt.of_owns hr8'
                clear hr8'
                have hI9 := hI7.below b8
                have G := HG.out.next b8
                clear HG t0 t1 b7 b8 hI7
                have HG := show Hid (OAt _ _ _ _ _ _ _ _ _ _ _) from G
                clear G
                go_wp2_with fail
                refine (sameItems_any ca da cc dc (itemsO v) (itemsO v) _ (by omega) (by omega) hI9 hI8).mono ?_
                rintro e w9 ⟨rfl, b9⟩
                have hIa := hI9.below b9
                have G := HG.out.next b9
                clear HG b9 hI8 hI9
                have t1 := (G.u.cell 1).trans rfl
                have HG := show Hid (OAt _ _ _ _ _ _ _ _ _ _ _) from G
                clear G
                rw [decide_eq_true (rfl : itemsO v = itemsO v)]
                go_wp2_with fail
                refine (sameItems_any ca ua cc uc (itemsO v) (itemsO v) _ (by omega) (by omega) hIa HG.out.its).mono ?_
                rintro e wa ⟨rfl, ba⟩
                have HB := show Hid (Below w.heap.size w wa) from HG.out.below.trans (ba.mono HG.out.below.size)
                clear HG ba hIa t1
                rw [decide_eq_true (rfl : itemsO v = itemsO v)]
                go_wp2_with fail
                go_ret
                exact ⟨rfl, HB.out⟩
        · have hge : ¬ (i : Int) < (od.length : Int) := by omega
          have HG := show Hid (OAt _ _ _ _ _ _ _ _ _ _ _) from G
          clear G v0 v1 u0
          have KF := KI.start
          clear KI
          go_upto_region 13 with fail
          go_wp2_with fail
          generalize wr = wl at *
          have hj0 : ((itemsO o).length : Int) - 1 + 1 = ((itemsO o).length : Nat) := by omega
          go_loopw [12] (fun jv wv => ∃ (n : Nat) (j : Int) (v : Option Tr) (qv : Option Addr), n ≤ (itemsO o).length ∧ jv = .int .i64 j ∧ j + 1 = (n : Int) ∧ FromOn (itemsO o) n v ∧ OAt w bt bv wd' q qv ua uc o v wv) (fun jv _ => (intOf jv + 1).toNat)
          case atStart => exact ⟨(itemsO o).length, _, v, qv, Nat.le_refl _, rfl, hj0, KF, HG.out⟩
          case round =>
            clear KF HG hj0
            obtain ⟨n, j, v, qv, hn, rfl, hjn, KF, G⟩ := hrel
            cases n with
            | succ k =>
              have ej : j = (k : Int) := by omega
              subst ej
              clear hjn
              have hb1 : (k : Int) ≤ 1024 := by omega
              have hb0 : (0 : Int) ≤ (k : Int) := by omega
              have hkl : k < (itemsO o).length := by omega
              have hkl' : (k : Int) < ((itemsO o).length : Int) := by omega
              have hget := List.getElem?_eq_getElem hkl
              have hzm := List.getElem_mem hkl
              obtain ⟨hz1, hz2, hz3⟩ := hg.keys _ hzm
              have K5 := KF.put hg.sorted hkl hz1 hz2 hz3
              obtain ⟨z, ez⟩ : ∃ z, (itemsO o)[k] = z := ⟨_, rfl⟩
              rw [ez] at hget hz1 hz2 K5
              clear ez hzm hz3
              obtain ⟨ub, uo, eu⟩ := G.some (by omega)
              subst eu
              obtain ⟨C1, C2, C3⟩ := G.held
              obtain ⟨C4, C5⟩ := G.item hget
              have KP : ∀ w', Below wr.heap.size wr w' → Calls Try.prog 9 #[.agg #[.int .i64 wd', .pointer qv], .string (str z.1), .string (str z.2)] w' fun e w'' => ∃ q', e = .returned (.tuple #[.agg #[.int .i64 wd', .pointer q'], .int .i64 0]) ∧ TopAt wd' w'' (.pointer q') (putO z.1 z.2 v) ∧ Below w'.heap.size w' w'' := fun w' hb => put_any wd' qv v z.1 z.2 w' hw' hz1 hz2 KF.keysIn.good (TopAt.below hb G.topV)
              have HG := show Hid (OAt _ _ _ _ _ _ _ _ _ _ _) from G
              clear G hget KF
              go_upto_region 16 with fail
              have hHeld : Below wr.heap.size wr wr.drew := (Below.refl _ _).drew
              refine wp_region_late (fun w' => Below wr.heap.size wr w') 17 (by kernel_rfl) ?_
              refine wpAnyM_take (i := 0) (v := ?_) rfl (by kernel_rfl) (by kernel_rfl) (by kernel_rfl) (by kernel_rfl) (by decide) (by kernel_rfl) (fun _ _ _ h => h) (Or.inl ⟨by kernel_rfl, ?_⟩) (by assumption) ?_
              rotate_left
              · intro w' hSw
                have y1 := C1 _ hSw
                have y2 := C2 _ hSw
                have y3 := C3 _ hSw
                have y4 := C4 _ hSw
                have y5 := C5 _ hSw
                go_simp
                try (with_reducible rfl)
              simp only [Act.put, List.getElem_toArray, List.getElem_cons_succ, List.getElem_cons_zero, List.setIfInBounds_toArray, List.set_cons_zero, List.set_cons_succ]
              refine wpAnyM_take (i := 1) (v := ?_) rfl (by kernel_rfl) (by kernel_rfl) (by kernel_rfl) (by kernel_rfl) (by decide) (by kernel_rfl) (fun _ _ _ h => h) (Or.inl ⟨by kernel_rfl, ?_⟩) (by assumption) ?_
              rotate_left
              · intro w' hSw
                have y1 := C1 _ hSw
                have y2 := C2 _ hSw
                have y3 := C3 _ hSw
                have y4 := C4 _ hSw
                have y5 := C5 _ hSw
                go_simp
                try (with_reducible rfl)
              simp only [Act.put, List.getElem_toArray, List.getElem_cons_succ, List.getElem_cons_zero, List.setIfInBounds_toArray, List.set_cons_zero, List.set_cons_succ]
              refine wpAnyM_take (i := 2) (v := ?_) rfl (by kernel_rfl) (by kernel_rfl) (by kernel_rfl) (by kernel_rfl) (by decide) (by kernel_rfl) (fun _ _ _ h => h) (Or.inl ⟨by kernel_rfl, ?_⟩) (by assumption) ?_
              rotate_left
              · intro w' hSw
                have y1 := C1 _ hSw
                have y2 := C2 _ hSw
                have y3 := C3 _ hSw
                have y4 := C4 _ hSw
                have y5 := C5 _ hSw
                go_simp
                try (with_reducible rfl)
              simp only [Act.put, List.getElem_toArray, List.getElem_cons_succ, List.getElem_cons_zero, List.setIfInBounds_toArray, List.set_cons_zero, List.set_cons_succ]
              refine wpAnyM_take (i := 3) (v := ?_) rfl (by kernel_rfl) (by kernel_rfl) (by kernel_rfl) (by kernel_rfl) (by decide) (by kernel_rfl) (fun _ _ _ h => h) (Or.inl ⟨by kernel_rfl, ?_⟩) (by assumption) ?_
              rotate_left
              · intro w' hSw
                have y1 := C1 _ hSw
                have y2 := C2 _ hSw
                have y3 := C3 _ hSw
                have y4 := C4 _ hSw
                have y5 := C5 _ hSw
                go_simp
                try (with_reducible rfl)
              simp only [Act.put, List.getElem_toArray, List.getElem_cons_succ, List.getElem_cons_zero, List.setIfInBounds_toArray, List.set_cons_zero, List.set_cons_succ]
              refine wpAnyM_take (i := 4) (v := ?_) rfl (by kernel_rfl) (by kernel_rfl) (by kernel_rfl) (by kernel_rfl) (by decide) (by kernel_rfl) (fun _ _ _ h => h) (Or.inl ⟨by kernel_rfl, ?_⟩) (by assumption) ?_
              rotate_left
              · intro w' hSw
                have y1 := C1 _ hSw
                have y2 := C2 _ hSw
                have y3 := C3 _ hSw
                have y4 := C4 _ hSw
                have y5 := C5 _ hSw
                go_simp
                try (with_reducible rfl)
              simp only [Act.put, List.getElem_toArray, List.getElem_cons_succ, List.getElem_cons_zero, List.setIfInBounds_toArray, List.set_cons_zero, List.set_cons_succ]
              refine wpAnyM_take (i := 5) (v := ?_) rfl (by kernel_rfl) (by kernel_rfl) (by kernel_rfl) (by kernel_rfl) (by decide) (by kernel_rfl) (fun _ _ _ h => h) (Or.inl ⟨by kernel_rfl, ?_⟩) (by assumption) ?_
              rotate_left
              · intro w' hSw
                have y1 := C1 _ hSw
                have y2 := C2 _ hSw
                have y3 := C3 _ hSw
                have y4 := C4 _ hSw
                have y5 := C5 _ hSw
                go_simp
                try (with_reducible rfl)
              simp only [Act.put, List.getElem_toArray, List.getElem_cons_succ, List.getElem_cons_zero, List.setIfInBounds_toArray, List.set_cons_zero, List.set_cons_succ]
              refine wpAnyM_take (i := 6) (v := ?_) rfl (by kernel_rfl) (by kernel_rfl) (by kernel_rfl) (by kernel_rfl) (by decide) (by kernel_rfl) (fun _ _ _ h => h) (Or.inl ⟨by kernel_rfl, ?_⟩) (by assumption) ?_
              rotate_left
              · intro w' hSw
                have y1 := C1 _ hSw
                have y2 := C2 _ hSw
                have y3 := C3 _ hSw
                have y4 := C4 _ hSw
                have y5 := C5 _ hSw
                go_simp
                try (with_reducible rfl)
              simp only [Act.put, List.getElem_toArray, List.getElem_cons_succ, List.getElem_cons_zero, List.setIfInBounds_toArray, List.set_cons_zero, List.set_cons_succ]
              refine wpAnyM_take (i := 7) (v := ?_) rfl (by kernel_rfl) (by kernel_rfl) (by kernel_rfl) (by kernel_rfl) (by decide) (by kernel_rfl) (fun _ _ _ h => h) (Or.inl ⟨by kernel_rfl, ?_⟩) (by assumption) ?_
              rotate_left
              · intro w' hSw
                have y1 := C1 _ hSw
                have y2 := C2 _ hSw
                have y3 := C3 _ hSw
                have y4 := C4 _ hSw
                have y5 := C5 _ hSw
                go_simp
                try (with_reducible rfl)
              simp only [Act.put, List.getElem_toArray, List.getElem_cons_succ, List.getElem_cons_zero, List.setIfInBounds_toArray, List.set_cons_zero, List.set_cons_succ]
              refine wpAnyM_take (i := 8) (v := ?_) rfl (by kernel_rfl) (by kernel_rfl) (by kernel_rfl) (by kernel_rfl) (by decide) (by kernel_rfl) (fun _ _ _ h => h) (Or.inl ⟨by kernel_rfl, ?_⟩) (by assumption) ?_
              rotate_left
              · intro w' hSw
                have y1 := C1 _ hSw
                have y2 := C2 _ hSw
                have y3 := C3 _ hSw
                have y4 := C4 _ hSw
                have y5 := C5 _ hSw
                go_simp
                try (with_reducible rfl)
              simp only [Act.put, List.getElem_toArray, List.getElem_cons_succ, List.getElem_cons_zero, List.setIfInBounds_toArray, List.set_cons_zero, List.set_cons_succ]
              refine wpAnyM_take (i := 9) (v := ?_) rfl (by kernel_rfl) (by kernel_rfl) (by kernel_rfl) (by kernel_rfl) (by decide) (by kernel_rfl) (fun _ _ _ h => h) (Or.inl ⟨by kernel_rfl, ?_⟩) (by assumption) ?_
              rotate_left
              · intro w' hSw
                have y1 := C1 _ hSw
                have y2 := C2 _ hSw
                have y3 := C3 _ hSw
                have y4 := C4 _ hSw
                have y5 := C5 _ hSw
                go_simp
                try (with_reducible rfl)
              simp only [Act.put, List.getElem_toArray, List.getElem_cons_succ, List.getElem_cons_zero, List.setIfInBounds_toArray, List.set_cons_zero, List.set_cons_succ]
              refine wpAnyM_take (i := 10) (v := ?_) rfl (by kernel_rfl) (by kernel_rfl) (by kernel_rfl) (by kernel_rfl) (by decide) (by kernel_rfl) (fun _ _ _ h => h) (Or.inl ⟨by kernel_rfl, ?_⟩) (by assumption) ?_
              rotate_left
              · intro w' hSw
                have y1 := C1 _ hSw
                have y2 := C2 _ hSw
                have y3 := C3 _ hSw
                have y4 := C4 _ hSw
                have y5 := C5 _ hSw
                go_simp
                try (with_reducible rfl)
              simp only [Act.put, List.getElem_toArray, List.getElem_cons_succ, List.getElem_cons_zero, List.setIfInBounds_toArray, List.set_cons_zero, List.set_cons_succ]
              refine wpAnyM_take (i := 11) (v := ?_) rfl (by kernel_rfl) (by kernel_rfl) (by kernel_rfl) (by kernel_rfl) (by decide) (by kernel_rfl) (fun _ _ _ h => h) (Or.inl ⟨by kernel_rfl, ?_⟩) (by assumption) ?_
              rotate_left
              · intro w' hSw
                have y1 := C1 _ hSw
                have y2 := C2 _ hSw
                have y3 := C3 _ hSw
                have y4 := C4 _ hSw
                have y5 := C5 _ hSw
                go_simp
                try (with_reducible rfl)
              simp only [Act.put, List.getElem_toArray, List.getElem_cons_succ, List.getElem_cons_zero, List.setIfInBounds_toArray, List.set_cons_zero, List.set_cons_succ]
              refine wpAnyM_take (i := 12) (v := ?_) rfl (by kernel_rfl) (by kernel_rfl) (by kernel_rfl) (by kernel_rfl) (by decide) (by kernel_rfl) (fun _ _ _ h => h) (Or.inl ⟨by kernel_rfl, ?_⟩) (by assumption) ?_
              rotate_left
              · intro w' hSw
                have y1 := C1 _ hSw
                have y2 := C2 _ hSw
                have y3 := C3 _ hSw
                have y4 := C4 _ hSw
                have y5 := C5 _ hSw
                go_simp
                try (with_reducible rfl)
              simp only [Act.put, List.getElem_toArray, List.getElem_cons_succ, List.getElem_cons_zero, List.setIfInBounds_toArray, List.set_cons_zero, List.set_cons_succ]
              refine wpAnyM_one (i := 13) (by kernel_rfl) ?_
              refine wpOp_step rfl (fun K hK => ?_)
              go_simp
              refine (KP _ (by assumption)).mono ?_
              rintro e w5 ⟨q5, rfl, hT5, b5⟩
              have hN : Below wr.heap.size wr w5 := hHeld.trans (b5.mono hHeld.size)
              refine hK _ _ ⟨fun _ => hN, ?_⟩
              clear hK K
              try simp only [Act.put, List.getElem_toArray, List.getElem_cons_succ, List.getElem_cons_zero, List.setIfInBounds_toArray, List.set_cons_zero, List.set_cons_succ]
              refine wpAnyM_pure (i := 14) (v := ?_) rfl (by kernel_rfl) (by kernel_rfl) (by kernel_rfl) (by decide) (fun _ _ _ h => h) (Or.inl ⟨by kernel_rfl, ?_⟩) (by assumption) ?_
              rotate_left
              · intro w' _
                go_simp
                try (with_reducible rfl)
              simp only [Act.put, List.getElem_toArray, List.getElem_cons_succ, List.getElem_cons_zero, List.setIfInBounds_toArray, List.set_cons_zero, List.set_cons_succ]
              refine wpAnyM_pure (i := 15) (v := ?_) rfl (by kernel_rfl) (by kernel_rfl) (by kernel_rfl) (by decide) (fun _ _ _ h => h) (Or.inl ⟨by kernel_rfl, ?_⟩) (by assumption) ?_
              rotate_left
              · intro w' _
                go_simp
                try (with_reducible rfl)
              simp only [Act.put, List.getElem_toArray, List.getElem_cons_succ, List.getElem_cons_zero, List.setIfInBounds_toArray, List.set_cons_zero, List.set_cons_succ]
              refine wpAnyM_pure (i := 16) (v := ?_) rfl (by kernel_rfl) (by kernel_rfl) (by kernel_rfl) (by decide) (fun _ _ _ h => h) (Or.inl ⟨by kernel_rfl, ?_⟩) (by assumption) ?_
              rotate_left
              · intro w' _
                go_simp
                try (with_reducible rfl)
              simp only [Act.put, List.getElem_toArray, List.getElem_cons_succ, List.getElem_cons_zero, List.setIfInBounds_toArray, List.set_cons_zero, List.set_cons_succ]
              have G5 := (HG.out.next hN).set hT5
              obtain ⟨y0, y1, _, _⟩ := (HG.out.next hN).facts
              have yl := (HG.out.next hN).vb.lt
              have yf0 := (HG.out.next hN).vb.frozen 0
              have yf1 := (HG.out.next hN).vb.frozen 1
              refine wpAnyM_one (i := 17) (by kernel_rfl) ?_
              refine wpOp_step rfl (fun K hK => ?_)
              go_simp
              refine hK _ _ ⟨fun h => absurd h (by decide), ?_⟩
              clear hK K
              refine wpAnyM_done (by kernel_rfl) ?_ _
              try simp only [Exit.then]
              clear y0 y1 yl yf0 yf1
              generalize (w5.setCell ⟨bv, 0, none⟩ (.int .i64 wd')).setCell ⟨bv, 1, none⟩ (.pointer q5) = wq at *
              clear hT5 b5 hN KP C1 C2 C3 C4 C5 HG hHeld
              generalize putO z.1 z.2 v = v5 at *
              go_wp2
              exact ⟨⟨k, (k : Int) - 1, v5, q5, by omega, by go_num, by omega, K5, G5⟩, by simp [intOf]⟩
            | zero =>
              have ej : j = -1 := by omega
              subst ej
              have ev := KF.same hg
              subst ev
              clear hjn KF
              have t0 := (G.t.cell 0).trans rfl
              have t1 := (G.t.cell 1).trans rfl
              have HG := show Hid (OAt _ _ _ _ _ _ _ _ _ _ _) from G
              clear G
              go_wp2_with fail
              refine (root_any wd' q v _ hw' HG.out.topT).mono ?_
              rintro e w5 ⟨rfl, b5⟩
              have G := HG.out.next b5
              clear HG t0 t1
              have t0 := (G.vb.cell 0).trans rfl
              have t1 := (G.vb.cell 1).trans rfl
              have HG := show Hid (OAt _ _ _ _ _ _ _ _ _ _ _) from G
              clear G b5
              go_wp2_with fail
              refine (root_any wd' qv v _ hw' HG.out.topV).mono ?_
              rintro e w6 ⟨rfl, b6⟩
              have G := HG.out.next b6
              clear HG t0 t1
              have t0 := (G.t.cell 0).trans rfl
              have t1 := (G.t.cell 1).trans rfl
              have HG := show Hid (OAt _ _ _ _ _ _ _ _ _ _ _) from G
              clear G b6
              have hlen : (itemsO v).length ≤ 100000 := by omega
              have hkey : ∀ x ∈ itemsO v, x.1.length ≤ 4096 := fun x hx => by have := (hg.keys x hx).1; omega
              go_wp2_with fail
              refine (items_any wd' q v _ HG.out.topT hlen hkey).mono ?_
              rintro e w7 ⟨cv, rfl, hr7, b7⟩
              obtain ⟨ca, cc, rfl, hI7⟩ := ItemsAt.of_owns hr7
              clear hr7
              have G := HG.out.next b7
              clear HG t0 t1
              have t0 := (G.vb.cell 0).trans rfl
              have t1 := (G.vb.cell 1).trans rfl
              have HG := show Hid (OAt _ _ _ _ _ _ _ _ _ _ _) from G
              clear G
              go_wp2_with fail
              refine (items_any wd' qv v _ HG.out.topV hlen hkey).mono ?_
              rintro e w8 ⟨dv, rfl, hr8', b8⟩
              obtain ⟨da, dc, rfl, hI8⟩ := ItemsAt.of_owns hr8'
              clear hr8'
              have hI9 := hI7.below b8
              have G := HG.out.next b8
              clear HG t0 t1 b7 b8 hI7
              have HG := show Hid (OAt _ _ _ _ _ _ _ _ _ _ _) from G
              clear G
              go_wp2_with fail
              refine (sameItems_any ca da cc dc (itemsO v) (itemsO v) _ (by omega) (by omega) hI9 hI8).mono ?_
              rintro e w9 ⟨rfl, b9⟩
              have hIa := hI9.below b9
              have G := HG.out.next b9
              clear HG b9 hI8 hI9
              have t1 := (G.u.cell 1).trans rfl
              have HG := show Hid (OAt _ _ _ _ _ _ _ _ _ _ _) from G
              clear G
              rw [decide_eq_true (rfl : itemsO v = itemsO v)]
              go_wp2_with fail
              refine (sameItems_any ca ua cc uc (itemsO v) (itemsO v) _ (by omega) (by omega) hIa HG.out.its).mono ?_
              rintro e wa ⟨rfl, ba⟩
              have HB := show Hid (Below w.heap.size w wa) from HG.out.below.trans (ba.mono HG.out.below.size)
              clear HG ba hIa t1
              rw [decide_eq_true (rfl : itemsO v = itemsO v)]
              go_wp2_with fail
              go_ret
              exact ⟨rfl, HB.out⟩
end Go.Proofs.Ytncaimopkcnmbaa
