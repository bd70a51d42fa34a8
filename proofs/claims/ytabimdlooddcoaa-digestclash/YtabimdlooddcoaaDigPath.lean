/- Paths (chapter 2, D3): the program's way and the answer's. -/
import Derived.Test.YtabimdlooddcoaaDigBlk
import Derived.Deep.RegionHeld3
namespace Go.Proofs.Ytabimdlooddcoaa
open Go.RowKit
set_option linter.unusedVariables false

theorem infoDig : (Try.prog.info? 25).map (fun i => (i.zero, i.size, i.bytes)) = some (some (.int .u64 0), 1, 8) := by kernel_rfl

theorem owns_below {w w' : World} {base : Nat} {e : TypeId} {size : Nat} {v : Value} {n : Nat} {xs : List Value} (h : w.ownsRow base e size v n xs) (hb : Below w.heap.size w w') : w'.ownsRow base e size v n xs := by
  obtain ⟨h1, h2⟩ := h
  refine ⟨h1, ?_⟩
  rcases h2 with h2 | ⟨g, cap, cur, hv, hg, hh, r⟩
  · exact .inl h2
  · exact .inr ⟨g, cap, cur, hv, hg, by rw [hb.block g (Array.getElem?_eq_some_iff.1 hh).1]; exact hh, r⟩

theorem owns_form {w : World} {base : Nat} {e : TypeId} {size : Nat} {v : Value} {n : Nat} {xs : List Value} (h : w.ownsRow base e size v n xs) : ∃ a c, v = .slice a n c := by
  rcases h.2 with ⟨rfl, rfl⟩ | ⟨g, cap, cur, rfl, _⟩
  · exact ⟨_, _, rfl⟩
  · exact ⟨_, _, rfl⟩

/-- No leaf at that place. -/
def noPath : Value := .tuple #[.agg #[.int .i64 0, .int .i64 0, .slice none 0 0], .int .i64 30]

set_option maxHeartbeats 400000 in
theorem rpath_none (wd : Int) (a : Option Addr) (n cap : Nat) (i : Int) (w : World) (h : i < 0 ∨ (n : Int) ≤ i) :
    Calls Try.prog 13 #[.int .i64 wd, .slice a n cap, .int .i64 i] w fun e w' => e = .returned noPath ∧ Below w.heap.size w w' := by
  rcases h with h | h
  · go_enter Try.func13, Try.ntmps13
    go_wp2
    exact bodyPost_ret (v := noPath) (by simp [noPath, results, Try.results13, go_sem]) rfl ⟨rfl, (Below.refl _ _).alloc (Nat.le_refl _) _⟩
  · by_cases h0 : i < 0
    · omega
    have h1 : decide (i < 0) = false := by simpa using h0
    go_enter Try.func13, Try.ntmps13
    go_wp2
    exact bodyPost_ret (v := noPath) (by simp [noPath, results, Try.results13, go_sem]) rfl ⟨rfl, (Below.refl _ _).alloc (Nat.le_refl _) _⟩

set_option maxHeartbeats 400000 in
theorem path_none (wd : Int) (a : Option Addr) (n cap : Nat) (i : Int) (w : World) (h : i < 0 ∨ (n : Int) ≤ i) :
    Calls Try.prog 12 #[.int .i64 wd, .slice a n cap, .int .i64 i] w fun e w' => e = .returned noPath ∧ Below w.heap.size w w' := by
  rcases h with h | h
  · go_enter Try.func12, Try.ntmps12
    go_wp2
    exact bodyPost_ret (v := noPath) (by simp [noPath, results, Try.results12, go_sem]) rfl ⟨rfl, (Below.refl _ _).alloc (Nat.le_refl _) _⟩
  · by_cases h0 : i < 0
    · omega
    have h1 : decide (i < 0) = false := by simpa using h0
    go_enter Try.func12, Try.ntmps12
    go_wp2
    exact bodyPost_ret (v := noPath) (by simp [noPath, results, Try.results12, go_sem]) rfl ⟨rfl, (Below.refl _ _).alloc (Nat.le_refl _) _⟩

set_option maxHeartbeats 1600000 in
theorem rpath_some (wd : Int) (b off n cap i : Nat) (ss : List ByteArray) (w : World) (hw : -9223372036854775808 ≤ wd ∧ wd ≤ 9223372036854775807) (hn : n ≤ 1099511627776) (hl : ss.length = n) (hcap : n ≤ cap) (hm : cap ≤ maxLen) (hs : Strs w (some ⟨b, off, none⟩) ss) (hi : i < n) :
    Calls Try.prog 13 #[.int .i64 wd, .slice (some ⟨b, off, none⟩) n cap, .int .i64 i] w fun e w' =>
      ∃ v, e = .returned (.tuple #[.agg #[.int .i64 n, .int .i64 i, v], .int .i64 0]) ∧ Row w' v ((sidesP wd ss i).map (Value.int .u64)) ∧ Below w.heap.size w w' := by
  obtain ⟨i0, hinf, hz0, hz1, hz2⟩ := info_parts infoDig
  have hm' := hm
  unfold maxLen at hm'
  have hi1 : (i : Int) < (n : Int) := by omega
  have hi2 : decide ((i : Int) < 0) = false := by simp
  have hi3 : decide (n ≤ i) = false := by simpa using hi
  go_enter Try.func13, Try.ntmps13
  go_wp2
  go_loopw [9, 10] (fun lov hiv wv => ∃ (lo hi c : Nat) (pre : List Int) (sv : Value), lov = .int .i64 lo ∧ hiv = .int .i64 hi ∧ lo ≤ i ∧ i < hi ∧ hi ≤ n ∧ c + (hi - lo) ≤ n ∧ Hid (pre.length = c) ∧
      Hid (sidesP wd ss i = pre ++ sidesP wd ((ss.drop lo).take (hi - lo)) (i - lo)) ∧ wv.ownsRow (w.heap.size + 2) 25 1 sv c (pre.map (Value.int .u64)) ∧
      Blk wv w.heap.size #[.int .i64 0, .int .i64 0, .slice none 0 0] 34 ∧ Blk wv (w.heap.size + 1) #[.int .i64 n, .int .i64 i, sv] 34 ∧ Below w.heap.size w wv) (fun lov hiv _ => (intOf hiv - intOf lov).toNat)
  case atStart =>
    refine ⟨0, n, 0, [], .slice none 0 0, rfl, rfl, by omega, hi, by omega, by omega, rfl, ?_, World.ownsRow_nil _ _ _ _, ?_, ?_, ?_⟩
    · show _ = _; simp [← hl]
    · exact (Blk.new w _ _).alloc _
    · have h := Blk.new (w.alloc (.cells #[.int .i64 0, .int .i64 0, .slice none 0 0] 34)) #[.int .i64 n, .int .i64 i, .slice none 0 0] 34
      rw [World.size_alloc] at h; exact h
    · exact ((Below.refl _ _).alloc (Nat.le_refl _) _).alloc (by simp) _
  case round =>
    obtain ⟨lo, hi, c, pre, sv, rfl, rfl, h1, h2, h3, h4, Hc, Hp, hown, kB, kP, hb⟩ := hrel
    by_cases hgt : 1 < hi - lo
    · have hgt' : (1 : Int) < (hi : Int) - (lo : Int) := by omega
      have ed : ((hi : Int) - (lo : Int)) = ((hi - lo : Nat) : Int) := by omega
      have hf := firstP_spec (hi - lo) (by omega)
      have hcl : ((ss.drop lo).take (hi - lo)).length = hi - lo := by simp; omega
      have hR := sidesP_right wd ((ss.drop lo).take (hi - lo)) (i - lo) (by omega)
      have hL := sidesP_left wd ((ss.drop lo).take (hi - lo)) (i - lo) (by omega)
      rw [hcl] at hR hL
      go_wp2_with fail
      refine (split_any (hi - lo) _ (by omega) (by omega)).mono ?_
      rintro e w1 ⟨rfl, rfl⟩
      generalize firstP (hi - lo) = k at *
      have et : ((ss.drop lo).take (hi - lo)).take k = (ss.drop lo).take k := by rw [List.take_take, Nat.min_eq_left (by omega)]
      have edr : ((ss.drop lo).take (hi - lo)).drop k = (ss.drop (lo + k)).take (hi - (lo + k)) := by rw [List.drop_take, List.drop_drop]; congr 1; omega
      rw [et, edr] at hR hL
      clear et edr hcl ed
      have HR := show Hid (_ → _) from hR
      have HL := show Hid (_ → _) from hL
      clear hR hL
      have hs1 := hs.below hb
      have c2 := kP.cell 2
      have f2 := kP.frozen 2
      simp only [List.getElem?_toArray, List.getElem?_cons_succ, List.getElem?_cons_zero] at c2
      by_cases hk : k ≤ i - lo
      · have hk' : ¬ (i : Int) < (lo : Int) + (k : Int) := by omega
        have HT := show Hid (_ = _) from HR.out hk
        clear HR HL
        have hS := (hs1.drop lo).take k
        have hlS : ((ss.drop lo).take k).length = k := by simp; omega
        generalize (ss.drop lo).take k = sub at *
        have HlS := show Hid (_ = _) from hlS
        clear hlS
        go_wp2_with fail
        refine (rabove_any (k) (by omega) wd _ (cap - lo) sub _ hw HlS.out (by omega) (by omega) hS).mono ?_
        rintro e w1 ⟨rfl, b1⟩
        generalize aboveP wd sub = x at *
        have hown1 := owns_below hown b1
        have kP1 := kP.below b1 kP.lt
        have kB1 := kB.below b1 kB.lt
        have d2 := kP1.cell 2
        simp only [List.getElem?_toArray, List.getElem?_cons_succ, List.getElem?_cons_zero] at d2
        have d3 := kP1.lt
        clear c2 f2
        go_wp2_with (at_builtin; refine wpList_append_lies _ rfl _ _ _ rfl (w.heap.size + 2) 25 i0 (.int .u64 0) 1 8 Try.underlying32 hinf hz0 hz1 hz2 rfl (by omega) sv c _ rfl (hown1.alloc _) ⟨w1.heap.size, 0, none⟩ 1 1 [.int .u64 x] rfl rfl ?c1 ?c2 (by omega) ?c3 ?c4 ?c5 (w1.heap.size + 1) ?c6 ?_)
        case c1 => exact cell_one_new _ _ _
        case c2 => intro u hu; simp at hu; subst hu; rfl
        case c3 => unfold maxLen; omega
        case c4 => omega
        case c5 => simp; omega
        case c6 => simp
        intro g cg w2 hown2 hgrow hat hlt
        have kP2 := (kP1.alloc (.cells #[.int .u64 x] 25)).grown hgrow (fun e => by have := (hown1.lt _ e).1; omega)
        have kB2 := (kB1.alloc (.cells #[.int .u64 x] 25)).grown hgrow (fun e => by have := (hown1.lt _ e).1; omega)
        have hb1 : Below w.heap.size w w1 := hb.trans (b1.mono hb.size)
        have hb2 : Below w.heap.size w w2 := (hb1.alloc hb1.size _).grown hgrow (by have := hb1.size; simp; omega) (fun k e => by have := (hown1.lt k e).1; omega)
        have e2 := kP2.cell 2
        have g2 := kP2.frozen 2
        simp only [List.getElem?_toArray, List.getElem?_cons_succ, List.getElem?_cons_zero] at e2
        have hown3 := ownsRow_setCell_below hown2 (a := ⟨w.heap.size + 1, 2, none⟩) (by simp) (.slice (some ⟨g, 0, none⟩) (c + 1) cg)
        have kP3 := kP2.set 2 (.slice (some ⟨g, 0, none⟩) (c + 1) cg)
        have kB3 := kB2.setOther ⟨w.heap.size + 1, 2, none⟩ (by simp) (.slice (some ⟨g, 0, none⟩) (c + 1) cg)
        have hb3 : Below w.heap.size w (w2.setCell ⟨w.heap.size + 1, 2, none⟩ (.slice (some ⟨g, 0, none⟩) (c + 1) cg)) := hb2.setCell (by simp) _
        have Hpre : Hid ((pre ++ [x]).length = c + 1) := by show _ = _; rw [List.length_append, Hc.out]; rfl
        have HP : Hid (sidesP wd ss i = (pre ++ [x]) ++ sidesP wd ((ss.drop (lo + k)).take (hi - (lo + k))) (i - (lo + k))) := by
          show _ = _; rw [Hp.out, HT.out, List.append_assoc]; simp only [List.singleton_append]; try (congr 3; omega)
        have hown4 : (w2.setCell ⟨w.heap.size + 1, 2, none⟩ (.slice (some ⟨g, 0, none⟩) (c + 1) cg)).ownsRow (w.heap.size + 2) 25 1 (.slice (some ⟨g, 0, none⟩) (c + 1) cg) (c + 1) ((pre ++ [x]).map (Value.int .u64)) := by rw [List.map_append]; exact hown3
        clear hown hown1 hown2 hown3 kP kP1 kB kB1 kP2 kB2 hgrow hat hlt hb hb1 hb2 b1 Hp HT Hc d2 hs1 hS
        go_wp2
        exact ⟨⟨lo + k, hi, c + 1, pre ++ [x], _, by go_num, rfl, by omega, by omega, by omega, by omega, Hpre, HP, hown4, kB3, kP3, hb3⟩, by simp [intOf]; omega⟩
      · have hk' : (i : Int) < (lo : Int) + (k : Int) := by omega
        have HT := show Hid (_ = _) from HL.out hk
        clear HR HL
        have hS := (hs1.drop (lo + k)).take (hi - (lo + k))
        have hlS : ((ss.drop (lo + k)).take (hi - (lo + k))).length = hi - (lo + k) := by simp; omega
        generalize (ss.drop (lo + k)).take (hi - (lo + k)) = sub at *
        have HlS := show Hid (_ = _) from hlS
        clear hlS
        go_wp2_with fail
        refine (rabove_any (hi - (lo + k)) (by omega) wd _ (cap - (lo + k)) sub _ hw HlS.out (by omega) (by omega) hS).mono ?_
        rintro e w1 ⟨rfl, b1⟩
        generalize aboveP wd sub = x at *
        have hown1 := owns_below hown b1
        have kP1 := kP.below b1 kP.lt
        have kB1 := kB.below b1 kB.lt
        have d2 := kP1.cell 2
        simp only [List.getElem?_toArray, List.getElem?_cons_succ, List.getElem?_cons_zero] at d2
        have d3 := kP1.lt
        clear c2 f2
        go_wp2_with (at_builtin; refine wpList_append_lies _ rfl _ _ _ rfl (w.heap.size + 2) 25 i0 (.int .u64 0) 1 8 Try.underlying32 hinf hz0 hz1 hz2 rfl (by omega) sv c _ rfl (hown1.alloc _) ⟨w1.heap.size, 0, none⟩ 1 1 [.int .u64 x] rfl rfl ?c1 ?c2 (by omega) ?c3 ?c4 ?c5 (w1.heap.size + 1) ?c6 ?_)
        case c1 => exact cell_one_new _ _ _
        case c2 => intro u hu; simp at hu; subst hu; rfl
        case c3 => unfold maxLen; omega
        case c4 => omega
        case c5 => simp; omega
        case c6 => simp
        intro g cg w2 hown2 hgrow hat hlt
        have kP2 := (kP1.alloc (.cells #[.int .u64 x] 25)).grown hgrow (fun e => by have := (hown1.lt _ e).1; omega)
        have kB2 := (kB1.alloc (.cells #[.int .u64 x] 25)).grown hgrow (fun e => by have := (hown1.lt _ e).1; omega)
        have hb1 : Below w.heap.size w w1 := hb.trans (b1.mono hb.size)
        have hb2 : Below w.heap.size w w2 := (hb1.alloc hb1.size _).grown hgrow (by have := hb1.size; simp; omega) (fun k e => by have := (hown1.lt k e).1; omega)
        have e2 := kP2.cell 2
        have g2 := kP2.frozen 2
        simp only [List.getElem?_toArray, List.getElem?_cons_succ, List.getElem?_cons_zero] at e2
        have hown3 := ownsRow_setCell_below hown2 (a := ⟨w.heap.size + 1, 2, none⟩) (by simp) (.slice (some ⟨g, 0, none⟩) (c + 1) cg)
        have kP3 := kP2.set 2 (.slice (some ⟨g, 0, none⟩) (c + 1) cg)
        have kB3 := kB2.setOther ⟨w.heap.size + 1, 2, none⟩ (by simp) (.slice (some ⟨g, 0, none⟩) (c + 1) cg)
        have hb3 : Below w.heap.size w (w2.setCell ⟨w.heap.size + 1, 2, none⟩ (.slice (some ⟨g, 0, none⟩) (c + 1) cg)) := hb2.setCell (by simp) _
        have Hpre : Hid ((pre ++ [x]).length = c + 1) := by show _ = _; rw [List.length_append, Hc.out]; rfl
        have HP : Hid (sidesP wd ss i = (pre ++ [x]) ++ sidesP wd ((ss.drop lo).take (lo + k - lo)) (i - lo)) := by
          show _ = _; rw [Hp.out, HT.out, List.append_assoc]; simp only [List.singleton_append]; rw [show lo + k - lo = k by omega]
        have hown4 : (w2.setCell ⟨w.heap.size + 1, 2, none⟩ (.slice (some ⟨g, 0, none⟩) (c + 1) cg)).ownsRow (w.heap.size + 2) 25 1 (.slice (some ⟨g, 0, none⟩) (c + 1) cg) (c + 1) ((pre ++ [x]).map (Value.int .u64)) := by rw [List.map_append]; exact hown3
        clear hown hown1 hown2 hown3 kP kP1 kB kB1 kP2 kB2 hgrow hat hlt hb hb1 hb2 b1 Hp HT Hc d2 hs1 hS
        go_wp2
        exact ⟨⟨lo, lo + k, c + 1, pre ++ [x], _, rfl, by go_num, by omega, by omega, by omega, by omega, Hpre, HP, hown4, kB3, kP3, hb3⟩, by simp [intOf]; omega⟩
    · obtain ⟨sa, sc, rfl⟩ := owns_form hown
      have c0 := kP.cell 0
      have c1 := kP.cell 1
      have c2 := kP.cell 2
      have e0 := kB.cell 0
      have e1 := kB.cell 1
      have e2 := kB.cell 2
      have f0 := kB.frozen 0
      have f1 := kB.frozen 1
      have f2 := kB.frozen 2
      simp only [List.getElem?_toArray, List.getElem?_cons_succ, List.getElem?_cons_zero] at c0 c1 c2 e0 e1 e2
      have ed : ((hi : Int) - (lo : Int)) = 1 := by omega
      have Hs : Hid (sidesP wd ss i = pre) := by
        show _ = _
        rw [Hp.out, sidesP_one wd _ _ (by simp; omega), List.append_nil]
      have hown3 := ownsRow_setCell_below (ownsRow_setCell_below (ownsRow_setCell_below hown (a := ⟨w.heap.size, 0, none⟩) (by simp) (.int .i64 n)) (a := ⟨w.heap.size, 1, none⟩) (by simp) (.int .i64 i)) (a := ⟨w.heap.size, 2, none⟩) (by simp) (.slice sa c sc)
      have hb3 := ((hb.setCell (p := ⟨w.heap.size, 0, none⟩) (Nat.le_refl _) (.int .i64 n)).setCell (p := ⟨w.heap.size, 1, none⟩) (Nat.le_refl _) (.int .i64 i)).setCell (p := ⟨w.heap.size, 2, none⟩) (Nat.le_refl _) (.slice sa c sc)
      go_wp2
      exact bodyPost_ret (v := .tuple #[.agg #[.int .i64 n, .int .i64 i, .slice sa c sc], .int .i64 0]) (by simp [results, Try.results13, go_sem, e0, e1, e2]) rfl
        ⟨_, rfl, by rw [Hs.out]; exact row_of_owns hown3, hb3⟩
end Go.Proofs.Ytabimdlooddcoaa
