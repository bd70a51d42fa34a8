/- The answer's way up from a leaf (chapter 2, D4). -/
import Derived.Test.YtabimdlooddcoaaDigClimb
namespace Go.Proofs.Ytabimdlooddcoaa
open Go.RowKit
set_option linter.unusedVariables false

theorem infoImg : (Try.prog.info? 30).map (fun i => (i.zero, i.size, i.bytes)) = some (some (.agg #[.int .i64 0, .slice none 0 0]), 2, 32) := by kernel_rfl

set_option maxHeartbeats 800000 in
theorem rup_range (wd c i : Int) (s : ByteArray) (v : Value) (w : World) (ds : List Int) (hr : Row w v (ds.map (Value.int .u64))) (h : i < 0 ∨ (0 ≤ i ∧ c ≤ i) ∨ (0 ≤ i ∧ i < c ∧ 1099511627775 < c)) :
    Calls Try.prog 38 #[.int .i64 wd, .string s, .agg #[.int .i64 c, .int .i64 i, v]] w fun e w' => e = .returned (.tuple #[.slice none 0 0, .bool false]) ∧ Below w.heap.size w w' := by
  obtain ⟨a, cp, rfl⟩ := hr.form
  rcases h with h | ⟨h, h2⟩ | ⟨h, h2, h3⟩
  · go_enter Try.func38, Try.ntmps38
    go_wp2
    go_ret2
    exact ⟨rfl, (Below.refl _ _).alloc (Nat.le_refl _) _⟩
  · have g1 : decide (i < 0) = false := by simp; omega
    go_enter Try.func38, Try.ntmps38
    go_wp2
    go_ret2
    exact ⟨rfl, (Below.refl _ _).alloc (Nat.le_refl _) _⟩
  · have g1 : decide (i < 0) = false := by simp; omega
    have g2 : decide (c ≤ i) = false := by simp; omega
    go_enter Try.func38, Try.ntmps38
    go_wp2
    go_ret2
    exact ⟨rfl, (Below.refl _ _).alloc (Nat.le_refl _) _⟩

theorem owns_mono {w : World} {base base' : Nat} {e : TypeId} {size : Nat} {v : Value} {n : Nat} {xs : List Value} (h : w.ownsRow base e size v n xs) (hb : base' ≤ base) : w.ownsRow base' e size v n xs := by
  obtain ⟨h1, h2⟩ := h
  refine ⟨h1, ?_⟩
  rcases h2 with h2 | ⟨g, cap, cur, hv, hg, r⟩
  · exact .inl h2
  · exact .inr ⟨g, cap, cur, hv, Nat.le_trans hb hg, r⟩

theorem turns_get (n i : Nat) (ds : List Int) (j : Nat) (hj : j < ds.length) (hl : (turnsP n i).length = ds.length) :
    ∃ t : Bool, (turnsP n i)[j]? = some t ∧ ∃ hz : j < (List.zip (turnsP n i) ds).length, (List.zip (turnsP n i) ds)[j] = (t, ds[j]) := by
  have h1 : j < (turnsP n i).length := by omega
  refine ⟨(turnsP n i)[j], by simp [h1], by simp; omega, by simp⟩

set_option maxHeartbeats 6400000 in
theorem rup_any (wd : Int) (n i : Nat) (s : ByteArray) (v : Value) (w : World) (ds : List Int) (hw : -9223372036854775808 ≤ wd ∧ wd ≤ 9223372036854775807) (hss : s.size ≤ maxLen) (hr : Row w v (ds.map (Value.int .u64))) (hd : ∀ d ∈ ds, 0 ≤ d ∧ d ≤ 18446744073709551615) (hi : i < n) (hn : n ≤ 1099511627775) :
    Calls Try.prog 38 #[.int .i64 wd, .string s, .agg #[.int .i64 n, .int .i64 i, v]] w fun e w' => Below w.heap.size w w' ∧
      (((turnsP n i).length ≠ ds.length ∧ e = .returned (.tuple #[.slice none 0 0, .bool false])) ∨
       ((turnsP n i).length = ds.length ∧ ∃ sv E, e = .returned (.tuple #[sv, .bool true]) ∧ w'.ownsRow w.heap.size 30 2 sv E.length (flat E) ∧ okE w' E ∧ E.map Ent.img = upP wd s n (List.zip (turnsP n i) ds))) := by
  obtain ⟨va, vc, rfl⟩ := hr.form
  have hlen := hr.len
  rw [List.length_map] at *
  unfold maxLen at hlen
  obtain ⟨ib, hib, hb0, hb1, hb2⟩ := info_parts infoBool
  obtain ⟨ii, hii, hi0, hi1, hi2⟩ := info_parts infoImg
  have hi1' : (i : Int) < (n : Int) := by omega
  have g1 : decide ((i : Int) < 0) = false := by simp
  have g2 : decide ((n : Int) ≤ (i : Int)) = false := by simp; omega
  have g3 : decide ((1099511627775 : Int) < (n : Int)) = false := by simp; omega
  have g4 : decide (n ≤ i) = false := by simpa using hi
  go_enter Try.func38, Try.ntmps38
  go_wp2
  go_loopw [8, 9, 10] (fun rv lov hiv wv => ∃ (lo hi c : Nat) (pre : List Bool), lov = .int .i64 lo ∧ hiv = .int .i64 hi ∧ lo ≤ i ∧ i < hi ∧ hi ≤ n ∧ c + (hi - lo) ≤ n ∧ Hid (pre.length = c) ∧
      Hid (turnsP n i = pre ++ turnsP (hi - lo) (i - lo)) ∧ wv.ownsRow (w.heap.size + 1) 4 1 rv c (pre.map Value.bool) ∧ Blk wv w.heap.size #[.int .i64 n, .int .i64 i, .slice va ds.length vc] 34 ∧ Below w.heap.size w wv) (fun _ lov hiv _ => (intOf hiv - intOf lov).toNat)
  case atStart =>
    exact ⟨0, n, 0, [], rfl, rfl, by omega, hi, by omega, by omega, rfl, by show _ = _; simp, World.ownsRow_nil _ _ _ _, Blk.new w _ _, (Below.refl _ _).alloc (Nat.le_refl _) _⟩
  case round =>
    obtain ⟨lo, hi', c, pre, rfl, rfl, h1, h2, h3, h4, Hc, Hp, hown, kP, hb⟩ := hrel
    have p0 := kP.cell 0
    have p1 := kP.cell 1
    have p2 := kP.cell 2
    simp only [List.getElem?_toArray, List.getElem?_cons_succ, List.getElem?_cons_zero] at p0 p1 p2
    by_cases hgt : 1 < hi' - lo
    · have hgt' : (1 : Int) < (hi' : Int) - (lo : Int) := by omega
      have ed : ((hi' : Int) - (lo : Int)) = ((hi' - lo : Nat) : Int) := by omega
      have hf := firstP_spec (hi' - lo) (by omega)
      have hT := turns_cons (hi' - lo) (i - lo) (by omega)
      go_wp2_with fail
      refine (split_any (hi' - lo) _ (by omega) (by omega)).mono ?_
      rintro e w1 ⟨rfl, rfl⟩
      generalize firstP (hi' - lo) = k at *
      clear ed
      have HT := show Hid (_ = _) from hT
      clear hT
      by_cases hk : k ≤ i - lo
      · have hk' : ¬ (i : Int) < (lo : Int) + (k : Int) := by omega
        go_wp2_with (at_builtin; refine wpList_append_own _ rfl _ _ 55 rfl (w.heap.size + 1) 4 ib (.bool false) 1 1 Try.underlying55 hib hb0 hb1 hb2 rfl (by decide) _ _ _ rfl (hown.alloc _) ⟨wr.heap.size, 0, none⟩ 1 1 [.bool true] rfl rfl ?c1 ?c2 ?c3 ?c4 ?c5 ?_)
        case c1 => exact cell_one_new _ _ _
        case c2 => intro u hu; simp at hu; subst hu; rfl
        case c3 => unfold maxLen; omega
        case c4 => omega
        case c5 => have := kP.lt; simp; omega
        intro v' w1 hown' hgrow _
        have hne : u8.ownBlock ≠ some w.heap.size := fun e => by have := (hown.lt _ e).1; omega
        have kP1 := (kP.alloc (.cells #[.bool true] 4)).grown hgrow hne
        have q0 := kP1.cell 0
        have q1 := kP1.cell 1
        simp only [List.getElem?_toArray, List.getElem?_cons_succ, List.getElem?_cons_zero] at q0 q1
        have hb1 : Below w.heap.size w w1 := (hb.alloc hb.size _).grown hgrow (by have := hb.size; simp; omega) (fun k e => by have := (hown.lt k e).1; omega)
        have hpre : Hid ((pre ++ [true]).length = c + 1) := by show _ = _; rw [List.length_append, Hc.out]; rfl
        have hown2 : w1.ownsRow (w.heap.size + 1) 4 1 v' (c + 1) ((pre ++ [true]).map Value.bool) := by rw [List.map_append]; exact hown'
        have HP : Hid (turnsP n i = (pre ++ [true]) ++ turnsP (hi' - (lo + k)) (i - (lo + k))) := by
          show _ = _; rw [Hp.out, HT.out, if_pos hk, decide_eq_true hk, List.append_assoc, show hi' - (lo + k) = hi' - lo - k by omega, show i - (lo + k) = i - lo - k by omega]; rfl
        clear hown' hgrow hown kP p0 p1 p2 Hp HT
        go_wp2
        go_roundw
        case rel => exact ⟨lo + k, hi', c + 1, pre ++ [true], by go_num, rfl, by omega, by omega, by omega, by omega, hpre, HP, hown2, kP1, hb1⟩
        case measure => simp [intOf]; omega
      · have hk' : (i : Int) < (lo : Int) + (k : Int) := by omega
        have hk2 : decide ((lo : Int) + (k : Int) ≤ (i : Int)) = false := by simp; omega
        go_wp2_with (at_builtin; refine wpList_append_own _ rfl _ _ 55 rfl (w.heap.size + 1) 4 ib (.bool false) 1 1 Try.underlying55 hib hb0 hb1 hb2 rfl (by decide) _ _ _ rfl (hown.alloc _) ⟨wr.heap.size, 0, none⟩ 1 1 [.bool false] rfl rfl ?c1 ?c2 ?c3 ?c4 ?c5 ?_)
        case c1 => exact cell_one_new _ _ _
        case c2 => intro u hu; simp at hu; subst hu; rfl
        case c3 => unfold maxLen; omega
        case c4 => omega
        case c5 => have := kP.lt; simp; omega
        intro v' w1 hown' hgrow _
        have hne : u8.ownBlock ≠ some w.heap.size := fun e => by have := (hown.lt _ e).1; omega
        have kP1 := (kP.alloc (.cells #[.bool false] 4)).grown hgrow hne
        have q0 := kP1.cell 0
        have q1 := kP1.cell 1
        simp only [List.getElem?_toArray, List.getElem?_cons_succ, List.getElem?_cons_zero] at q0 q1
        have hb1 : Below w.heap.size w w1 := (hb.alloc hb.size _).grown hgrow (by have := hb.size; simp; omega) (fun k e => by have := (hown.lt k e).1; omega)
        have hpre : Hid ((pre ++ [false]).length = c + 1) := by show _ = _; rw [List.length_append, Hc.out]; rfl
        have hown2 : w1.ownsRow (w.heap.size + 1) 4 1 v' (c + 1) ((pre ++ [false]).map Value.bool) := by rw [List.map_append]; exact hown'
        have HP : Hid (turnsP n i = (pre ++ [false]) ++ turnsP (lo + k - lo) (i - lo)) := by
          show _ = _; rw [Hp.out, HT.out, if_neg hk, decide_eq_false hk, List.append_assoc, show lo + k - lo = k by omega]; rfl
        clear hown' hgrow hown kP p0 p1 p2 Hp HT
        go_wp2
        go_roundw
        case rel => exact ⟨lo, lo + k, c + 1, pre ++ [false], rfl, by go_num, by omega, by omega, by omega, by omega, hpre, HP, hown2, kP1, hb1⟩
        case measure => simp [intOf]; omega
    · have ed : ((hi' : Int) - (lo : Int)) = 1 := by omega
      have Hpre : Hid (turnsP n i = pre) := by show _ = _; rw [Hp.out, turnsP_one _ _ (by omega), List.append_nil]
      obtain ⟨ra, rc, hrv⟩ := owns_form hown
      subst hrv
      by_cases hcl : c = ds.length
      · have hcl' : ((c : Int) != (ds.length : Int)) = false := by simp [hcl]
        have Hz : Hid ((turnsP n i).length = ds.length) := by show _ = _; rw [Hpre.out, Hc.out]; exact hcl
        have Hpr := Hpre.out
        subst hcl
        have kP0 := kP.lt
        have hS1 : Strs ((wr.alloc (.cells #[.string s] 9)).alloc (.cells #[.int .i64 0, .slice (some ⟨wr.heap.size, 0, none⟩) 1 1] 30)) (some ⟨wr.heap.size, 0, none⟩) [s] := (strs_one wr s hss).below ((Below.refl _ _).alloc (Nat.le_refl _) _)
        have hS2 := strs_one ((wr.alloc (.cells #[.string s] 9)).alloc (.cells #[.int .i64 0, .slice (some ⟨wr.heap.size, 0, none⟩) 1 1] 30)) s hss
        have hO := World.ownsRow_lit (base := wr.heap.size) (e := 30) (size := 2) (wr.alloc (.cells #[.string s] 9)) #[.int .i64 0, .slice (some ⟨wr.heap.size, 0, none⟩) 1 1] 1 (by simp) (by unfold maxLen; omega) rfl
        rw [World.size_alloc, World.size_alloc] at hS2
        rw [World.size_alloc] at hO
        have hbA : Below wr.heap.size wr (((wr.alloc (.cells #[.string s] 9)).alloc (.cells #[.int .i64 0, .slice (some ⟨wr.heap.size, 0, none⟩) 1 1] 30)).alloc (.cells #[.string s] 9)) := (((Below.refl _ _).alloc (Nat.le_refl _) _).alloc (by simp) _).alloc (by simp; omega) _
        go_wp2_with fail
        refine (rof_any wd 0 _ 1 1 [s] _ hw rfl (by unfold maxLen; omega) hS2).mono ?_
        rintro e w1 ⟨rfl, b1⟩
        have hO1 := owns_below (hO.alloc (.cells #[.string s] 9)) b1
        have hE1 : okE w1 [⟨0, some ⟨wr.heap.size, 0, none⟩, 1, [s]⟩] := fun e he => by
          simp at he; subst he
          exact ⟨(hS1.below ((Below.refl _ _).alloc (Nat.le_refl _) _)).below b1, _, _, rfl, by have := b1.size; simp at this; omega⟩
        have bA : Below wr.heap.size wr w1 := hbA.trans (b1.mono hbA.size)
        have kP1 := kP.below bA kP.lt
        have hown1 := owns_below hown bA
        have hb1 : Below w.heap.size w w1 := hb.trans (bA.mono hb.size)
        have hHlt : ∀ k, (Value.slice ra ds.length rc).ownBlock = some k → k < wr.heap.size := fun k e => (hown.lt k e).2
        have hz1 : wr.heap.size + 2 ≤ w1.heap.size := by have := b1.size; simp at this; omega
        generalize hH : wr.heap.size = H at *
        clear hS1 hS2 hO hbA b1 bA hown kP hb hH
        have hx0 := ofP_bd wd 0 [s]
        go_wp2_with fail
        go_loopw [12, 13, 14] (fun svv dv iv wv => ∃ (k : Nat) (x : Int) (EL : Nat) (E : List Ent), iv = .int .i64 ((k : Int) - 1) ∧ dv = .int .u64 x ∧ k ≤ ds.length ∧ Hid (E.length = EL) ∧ EL + k = ds.length + 1 ∧ wv.ownsRow H 30 2 svv EL (flat E) ∧ okE wv E ∧ Apart svv E ∧
            Hid (x = climbD wd s ((List.zip (turnsP n i) ds).drop k)) ∧ Hid (E.map Ent.img = climb wd s ((List.zip (turnsP n i) ds).drop k)) ∧ H + 2 ≤ wv.heap.size ∧ wv.ownsRow (w.heap.size + 1) 4 1 (.slice ra ds.length rc) ds.length (pre.map Value.bool) ∧ Blk wv w.heap.size #[.int .i64 n, .int .i64 i, .slice va ds.length vc] 34 ∧ Below w.heap.size w wv) (fun _ _ iv _ => (intOf iv + 1).toNat)
        case atStart =>
          have hzz : (List.zip (turnsP n i) ds).drop ds.length = [] := List.drop_eq_nil_of_le (by simp; omega)
          exact ⟨ds.length, _, 1, [⟨0, some ⟨H, 0, none⟩, 1, [s]⟩], rfl, rfl, Nat.le_refl _, rfl, by omega, hO1, hE1, fun e he b off hab => by
            simp at he; subst he; simp at hab; simp [Value.ownBlock]; omega, by show _ = _; rw [hzz]; rfl, by show _ = _; rw [hzz]; rfl, hz1, hown1, kP1, hb1⟩
        case round =>
          obtain ⟨k, x, EL, E, rfl, rfl, hkl, HEL, hEk, hOw, hEw, hAp, HD, HM, hzw, hrw, kPw, hbw⟩ := hrel
          have p0 := kPw.cell 0
          have p2 := kPw.cell 2
          simp only [List.getElem?_toArray, List.getElem?_cons_succ, List.getElem?_cons_zero] at p0 p2
          by_cases hk0 : k = 0
          · subst hk0
            have HMz : Hid (E.map Ent.img = climb wd s (List.zip (turnsP n i) ds)) := HM
            have HDz : Hid (x = climbD wd s (List.zip (turnsP n i) ds)) := HD
            have hxb : 0 ≤ x ∧ x ≤ 18446744073709551615 := by rw [HD.out]; exact climbD_bd _ _ _
            have hbn : -9223372036854775808 ≤ (n : Int) ∧ (n : Int) ≤ 9223372036854775807 := by omega
            go_wp2_with fail
            refine (rfive _ _ hbn).mono ?_
            rintro e wa ⟨rfl, ba⟩
            go_wp2_with fail
            refine (reight x _ hxb).mono ?_
            rintro e wb ⟨rfl, bb'⟩
            have bb : Below wr.heap.size wr wb := ba.trans (bb'.mono ba.size)
            have hO2 := owns_below hOw bb
            have hE2 := hEw.below bb
            have hbb := hbw.trans (bb.mono hbw.size)
            have hzb := Nat.le_trans hzw bb.size
            clear p0 p2 ba bb' bb hOw hEw hrw kPw hbw hzw
            have hbW : Below wb.heap.size wb ((wb.alloc (.cells #[.string (str (be (n : Int) 5)), .string (str (be x 8))] 9)).alloc (.cells #[.int .i64 2, .slice (some ⟨wb.heap.size, 0, none⟩) 2 2] 30)) := ((Below.refl _ _).alloc (Nat.le_refl _) _).alloc (by simp) _
            have hSP := (strs_two wb (str (be (n : Int) 5)) (str (be x 8)) (be5_size _) (be8_size _)).below ((Below.refl _ _).alloc (Nat.le_refl _) (.cells #[.int .i64 2, .slice (some ⟨wb.heap.size, 0, none⟩) 2 2] 30))
            have hE3 := (hE2.below hbW).snoc ⟨2, some ⟨wb.heap.size, 0, none⟩, 2, [str (be (n : Int) 5), str (be x 8)]⟩ ⟨hSP, _, _, rfl, by simp only [World.size_alloc]; omega⟩
            have hA3 := hAp.snoc ⟨2, some ⟨wb.heap.size, 0, none⟩, 2, [str (be (n : Int) 5), str (be x 8)]⟩ (fun b off hab => by
              simp at hab
              intro h2
              have h3 := (hO2.lt _ h2).2
              omega)
            go_wp2_with (at_builtin; refine wpList_append_lies _ rfl _ _ _ rfl H 30 ii (.agg #[.int .i64 0, .slice none 0 0]) 2 32 Try.underlying58 hii hi0 hi1 hi2 rfl (by omega) u12 EL _ rfl ((hO2.alloc _).alloc _) ⟨wb.heap.size + 1, 0, none⟩ 1 1 [.int .i64 2, .slice (some ⟨wb.heap.size, 0, none⟩) 2 2] rfl rfl ?c1 ?c2 (by omega) ?c3 ?c4 ?c5 (wb.heap.size + 1 + 1) ?c6 ?_)
            case c1 =>
              have hnw := World.news_of_block (cs := #[.int .i64 2, .slice (some ⟨wb.heap.size, 0, none⟩) 2 2]) (t := 30) (fr := (0, 0)) (heap_alloc_new (wb.alloc (.cells #[.string (str (be (n : Int) 5)), .string (str (be x 8))] 9)) _)
              simp only [World.size_alloc] at hnw
              exact hnw
            case c2 => intro u hu; simp at hu; rcases hu with rfl | rfl <;> rfl
            case c3 => unfold maxLen; omega
            case c4 => omega
            case c5 => simp; omega
            case c6 => simp
            intro g2 cg w2 hown2 hgrow hat hlt
            have hE4 := hE3.grown hgrow hA3
            have hb4 : Below w.heap.size w w2 := (hbb.trans (hbW.mono hbb.size)).grown hgrow (by have := hbb.size; have := hbW.size; omega) (fun k e => by have := (hO2.lt k e).1; omega)
            have hlE : (E ++ [(⟨2, some ⟨wb.heap.size, 0, none⟩, 2, [str (be (n : Int) 5), str (be x 8)]⟩ : Ent)]).length = EL + 1 := by rw [List.length_append, HEL.out]; rfl
            have hown4 : w2.ownsRow w.heap.size 30 2 (.slice (some ⟨g2, 0, none⟩) (EL + 1) cg) (E ++ [(⟨2, some ⟨wb.heap.size, 0, none⟩, 2, [str (be (n : Int) 5), str (be x 8)]⟩ : Ent)]).length (flat (E ++ [⟨2, some ⟨wb.heap.size, 0, none⟩, 2, [str (be (n : Int) 5), str (be x 8)]⟩])) := by
              rw [hlE, flat_snoc]; exact owns_mono hown2 (by omega)
            clear hown2 hgrow hat hlt hE3 hA3 hSP hbW
            go_wp2
            go_ret2
            exact ⟨hb4, .inr ⟨Hz.out, _, _, rfl, hown4, hE4, by rw [List.map_append, HMz.out]; unfold upP; rw [← HDz.out]; rfl⟩⟩
          obtain ⟨j, rfl⟩ : ∃ j, k = j + 1 := ⟨k - 1, by omega⟩
          have hj : j < ds.length := by omega
          obtain ⟨t, ht, hzl, hzj⟩ := turns_get n i ds j hj Hz.out
          have hcs := climb_step wd s (List.zip (turnsP n i) ds) j hzl
          rw [hzj] at hcs
          have hdj := hd ds[j] (List.getElem_mem hj)
          obtain ⟨b2, o2, rfl, hl2, e2⟩ := (hr.below hbw).at j (by simpa using hj)
          rw [List.getElem_map] at e2
          obtain ⟨rg, rfl⟩ : ∃ rg, ra = some ⟨rg, 0, none⟩ := by
            rcases hrw.2 with ⟨_, h⟩ | ⟨g, c, cu, h, _⟩
            · omega
            · simp at h; exact ⟨g, h.1⟩
          have hrc : wr.cell? ⟨rg, j, none⟩ = some (.bool t) := by
            rw [hrw.cellAt j (by omega), List.getElem?_map, ← Hpr, ht]; rfl
          have hrg := (hrw.lt rg rfl).2
          rw [← HD.out] at hcs
          have HM2 := show Hid (_ = _) from hcs.1
          have HD2 : Hid (_ = _) := hcs.2.symm
          generalize ds[j] = dj at *
          clear hcs hzj ht
          have hxb : 0 ≤ x ∧ x ≤ 18446744073709551615 := by rw [HD.out]; exact climbD_bd _ _ _
          have hjj : ((j : Int) + 1 - 1) = (j : Int) := by omega
          have hjp : (0 : Int) ≤ (j : Int) := by omega
          have hjl : (j : Int) < (ds.length : Int) := by omega
          go_wp2_with fail
          refine (reight x _ hxb).mono ?_
          rintro e wa ⟨rfl, ba⟩
          have p2a : wa.cell? ⟨w.heap.size, 2, none⟩ = some (.slice (some ⟨b2, o2, none⟩) ds.length vc) := by rw [ba.cell (p := ⟨w.heap.size, 2, none⟩) kPw.lt]; exact p2
          have e2a : wa.cell? ⟨b2, o2 + j, none⟩ = some (.int .u64 dj) := by rw [ba.cell (p := ⟨b2, o2 + j, none⟩) hl2]; exact e2
          go_wp2_with fail
          refine (reight dj _ hdj).mono ?_
          rintro e wb ⟨rfl, bb'⟩
          have bb : Below wr.heap.size wr wb := ba.trans (bb'.mono ba.size)
          have hO2 := owns_below hOw bb
          have hE2 := hEw.below bb
          have hrb := owns_below hrw bb
          have kPb := kPw.below bb kPw.lt
          have hbb := hbw.trans (bb.mono hbw.size)
          have hzb := Nat.le_trans hzw bb.size
          have hrcb : wb.cell? ⟨rg, j, none⟩ = some (.bool t) := by rw [bb.cell (p := ⟨rg, j, none⟩) hrg]; exact hrc
          have hrgb : rg < wb.heap.size := Nat.lt_of_lt_of_le hrg bb.size
          clear p0 p2 p2a e2a e2 ba bb' bb hOw hEw hrw kPw hbw hzw hrc hrg hl2
          cases t
          · have hbW : Below wb.heap.size wb ((wb.alloc (.cells #[.string (str (be x 8)), .string (str (be dj 8))] 9)).alloc (.cells #[.int .i64 1, .slice (some ⟨wb.heap.size, 0, none⟩) 2 2] 30)) := ((Below.refl _ _).alloc (Nat.le_refl _) _).alloc (by simp) _
            have hSP := (strs_two wb (str (be x 8)) (str (be dj 8)) (be8_size _) (be8_size _)).below ((Below.refl _ _).alloc (Nat.le_refl _) (.cells #[.int .i64 1, .slice (some ⟨wb.heap.size, 0, none⟩) 2 2] 30))
            have hE3 := (hE2.below hbW).snoc ⟨1, some ⟨wb.heap.size, 0, none⟩, 2, [str (be x 8), str (be dj 8)]⟩ ⟨hSP, _, _, rfl, by simp only [World.size_alloc]; omega⟩
            have hA3 := hAp.snoc ⟨1, some ⟨wb.heap.size, 0, none⟩, 2, [str (be x 8), str (be dj 8)]⟩ (fun b off hab => by
              simp at hab
              intro h2
              have h3 := (hO2.lt _ h2).2
              omega)
            go_wp2_with (at_builtin; refine wpList_append_lies _ rfl _ _ _ rfl H 30 ii (.agg #[.int .i64 0, .slice none 0 0]) 2 32 Try.underlying58 hii hi0 hi1 hi2 rfl (by omega) u12 EL _ rfl ((hO2.alloc _).alloc _) ⟨wb.heap.size + 1, 0, none⟩ 1 1 [.int .i64 1, .slice (some ⟨wb.heap.size, 0, none⟩) 2 2] rfl rfl ?c1 ?c2 (by omega) ?c3 ?c4 ?c5 (wb.heap.size + 1 + 1) ?c6 ?_)
            case c1 =>
              have hnw := World.news_of_block (cs := #[.int .i64 1, .slice (some ⟨wb.heap.size, 0, none⟩) 2 2]) (t := 30) (fr := (0, 0)) (heap_alloc_new (wb.alloc (.cells #[.string (str (be x 8)), .string (str (be dj 8))] 9)) _)
              simp only [World.size_alloc] at hnw
              exact hnw
            case c2 => intro u hu; simp at hu; rcases hu with rfl | rfl <;> rfl
            case c3 => unfold maxLen; omega
            case c4 => omega
            case c5 => simp; omega
            case c6 => simp
            intro g2 cg w2 hown2 hgrow hat hlt
            have hE4 := hE3.grown hgrow hA3
            have hA4 : Apart (.slice (some ⟨g2, 0, none⟩) (EL + 1) cg) (E ++ [⟨1, some ⟨wb.heap.size, 0, none⟩, 2, [str (be x 8), str (be dj 8)]⟩]) := hA3.next hE3 hat (by simp)
            have kP4 := (kPb.below hbW kPb.lt).grown hgrow (fun e => by have := (hO2.lt _ e).1; omega)
            have hr4 := (owns_below hrb hbW).kept hgrow (by
              by_cases hne : (Value.slice (some ⟨rg, 0, none⟩) ds.length rc).ownBlock = u12.ownBlock
              · exfalso
                have h1 := hHlt rg rfl
                have h2 := (hO2.lt rg (hne.symm.trans rfl)).1
                omega
              · exact .inr hne)
            have hb4 : Below w.heap.size w w2 := (hbb.trans (hbW.mono hbb.size)).grown hgrow (by have := hbb.size; have := hbW.size; omega) (fun k e => by have := (hO2.lt k e).1; omega)
            have hS4 : Strs w2 (some ⟨wb.heap.size, 0, none⟩) [str (be x 8), str (be dj 8)] := (hE4 _ (List.mem_append_right _ (List.mem_singleton.2 rfl))).1
            have hz4 : H + 2 ≤ w2.heap.size := by have := hgrow.size; simp at this; omega
            have hown4 : w2.ownsRow H 30 2 (.slice (some ⟨g2, 0, none⟩) (EL + 1) cg) (EL + 1) (flat (E ++ [⟨1, some ⟨wb.heap.size, 0, none⟩, 2, [str (be x 8), str (be dj 8)]⟩])) := by rw [flat_snoc]; exact hown2
            clear hown2 hgrow hat hlt hE3 hA3 hSP hbW
            go_wp2_with fail
            refine (rof_any wd 1 _ 2 2 [str (be x 8), str (be dj 8)] _ hw rfl (by unfold maxLen; omega) hS4).mono ?_
            rintro e w5 ⟨rfl, b5⟩
            have hE5 := hE4.below b5
            have kP5 := kP4.below b5 kP4.lt
            have hr5 := owns_below hr4 b5
            have hO5 := owns_below hown4 b5
            have hb5 := hb4.trans (b5.mono hb4.size)
            have hz5 := Nat.le_trans hz4 b5.size
            clear hE4 kP4 hr4 hown4 hb4 b5 hz4 hS4
            go_wp2
            go_roundw
            case rel => exact ⟨j, _, EL + 1, _, by go_num, rfl, by omega, by show _ = _; rw [List.length_append, HEL.out]; rfl, by omega, hO5, hE5, hA4, HD2, by show _ = _; rw [List.map_append, HM.out]; exact HM2.out.symm, hz5, hr5, kP5, hb5⟩
            case measure => simp [intOf]
          · have hbW : Below wb.heap.size wb (((wb.alloc (.cells #[.string (str (be x 8)), .string (str (be dj 8))] 9)).alloc (.cells #[.string (str (be dj 8)), .string (str (be x 8))] 9)).alloc (.cells #[.int .i64 1, .slice (some ⟨wb.heap.size + 1, 0, none⟩) 2 2] 30)) := (((Below.refl _ _).alloc (Nat.le_refl _) _).alloc (by simp) _).alloc (by simp; omega) _
            have hSP := (strs_two (wb.alloc (.cells #[.string (str (be x 8)), .string (str (be dj 8))] 9)) (str (be dj 8)) (str (be x 8)) (be8_size _) (be8_size _)).below ((Below.refl _ _).alloc (Nat.le_refl _) (.cells #[.int .i64 1, .slice (some ⟨wb.heap.size + 1, 0, none⟩) 2 2] 30))
            rw [World.size_alloc] at hSP
            have hE3 := (hE2.below hbW).snoc ⟨1, some ⟨wb.heap.size + 1, 0, none⟩, 2, [str (be dj 8), str (be x 8)]⟩ ⟨hSP, _, _, rfl, by simp only [World.size_alloc]; omega⟩
            have hA3 := hAp.snoc ⟨1, some ⟨wb.heap.size + 1, 0, none⟩, 2, [str (be dj 8), str (be x 8)]⟩ (fun b off hab => by
              simp at hab
              intro h2
              have h3 := (hO2.lt _ h2).2
              omega)
            go_wp2_with (at_builtin; refine wpList_append_lies _ rfl _ _ _ rfl H 30 ii (.agg #[.int .i64 0, .slice none 0 0]) 2 32 Try.underlying58 hii hi0 hi1 hi2 rfl (by omega) u12 EL _ rfl (((hO2.alloc _).alloc _).alloc _) ⟨wb.heap.size + 1 + 1, 0, none⟩ 1 1 [.int .i64 1, .slice (some ⟨wb.heap.size + 1, 0, none⟩) 2 2] rfl rfl ?c1 ?c2 (by omega) ?c3 ?c4 ?c5 (wb.heap.size + 1 + 1 + 1) ?c6 ?_)
            case c1 =>
              have hnw := World.news_of_block (cs := #[.int .i64 1, .slice (some ⟨wb.heap.size + 1, 0, none⟩) 2 2]) (t := 30) (fr := (0, 0)) (heap_alloc_new ((wb.alloc (.cells #[.string (str (be x 8)), .string (str (be dj 8))] 9)).alloc (.cells #[.string (str (be dj 8)), .string (str (be x 8))] 9)) _)
              simp only [World.size_alloc] at hnw
              exact hnw
            case c2 => intro u hu; simp at hu; rcases hu with rfl | rfl <;> rfl
            case c3 => unfold maxLen; omega
            case c4 => omega
            case c5 => simp; omega
            case c6 => simp
            intro g2 cg w2 hown2 hgrow hat hlt
            have hE4 := hE3.grown hgrow hA3
            have hA4 : Apart (.slice (some ⟨g2, 0, none⟩) (EL + 1) cg) (E ++ [⟨1, some ⟨wb.heap.size + 1, 0, none⟩, 2, [str (be dj 8), str (be x 8)]⟩]) := hA3.next hE3 hat (by simp)
            have kP4 := (kPb.below hbW kPb.lt).grown hgrow (fun e => by have := (hO2.lt _ e).1; omega)
            have hr4 := (owns_below hrb hbW).kept hgrow (by
              by_cases hne : (Value.slice (some ⟨rg, 0, none⟩) ds.length rc).ownBlock = u12.ownBlock
              · exfalso
                have h1 := hHlt rg rfl
                have h2 := (hO2.lt rg (hne.symm.trans rfl)).1
                omega
              · exact .inr hne)
            have hb4 : Below w.heap.size w w2 := (hbb.trans (hbW.mono hbb.size)).grown hgrow (by have := hbb.size; have := hbW.size; omega) (fun k e => by have := (hO2.lt k e).1; omega)
            have hS4 : Strs w2 (some ⟨wb.heap.size + 1, 0, none⟩) [str (be dj 8), str (be x 8)] := (hE4 _ (List.mem_append_right _ (List.mem_singleton.2 rfl))).1
            have hz4 : H + 2 ≤ w2.heap.size := by have := hgrow.size; simp at this; omega
            have hown4 : w2.ownsRow H 30 2 (.slice (some ⟨g2, 0, none⟩) (EL + 1) cg) (EL + 1) (flat (E ++ [⟨1, some ⟨wb.heap.size + 1, 0, none⟩, 2, [str (be dj 8), str (be x 8)]⟩])) := by rw [flat_snoc]; exact hown2
            clear hown2 hgrow hat hlt hE3 hA3 hSP hbW
            go_wp2_with fail
            refine (rof_any wd 1 _ 2 2 [str (be dj 8), str (be x 8)] _ hw rfl (by unfold maxLen; omega) hS4).mono ?_
            rintro e w5 ⟨rfl, b5⟩
            have hE5 := hE4.below b5
            have kP5 := kP4.below b5 kP4.lt
            have hr5 := owns_below hr4 b5
            have hO5 := owns_below hown4 b5
            have hb5 := hb4.trans (b5.mono hb4.size)
            have hz5 := Nat.le_trans hz4 b5.size
            clear hE4 kP4 hr4 hown4 hb4 b5 hz4 hS4
            go_wp2
            go_roundw
            case rel => exact ⟨j, _, EL + 1, _, by go_num, rfl, by omega, by show _ = _; rw [List.length_append, HEL.out]; rfl, by omega, hO5, hE5, hA4, HD2, by show _ = _; rw [List.map_append, HM.out]; exact HM2.out.symm, hz5, hr5, kP5, hb5⟩
            case measure => simp [intOf]
      · have hcl' : ((c : Int) != (ds.length : Int)) = true := by simp; omega
        go_wp2
        go_ret2
        exact ⟨hb, .inl ⟨by rw [Hpre.out, Hc.out]; exact hcl, rfl⟩⟩
end Go.Proofs.Ytabimdlooddcoaa
