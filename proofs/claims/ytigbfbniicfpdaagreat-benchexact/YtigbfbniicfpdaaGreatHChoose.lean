/- Who is chosen: the program's. -/
import Derived.Test.YtigbfbniicfpdaaGreatHSortF
import Derived.Test.YtigbfbniicfpdaaGreatBOpen
import Derived.Maps.OwnSet
import Derived.Deep.CutBlock
import Derived.Maps.AppendAt
namespace Go.Proofs.YtigbfbniicfpdaaGreat
open Go.RowKit Go.Maps
set_option linter.unusedVariables false
set_option linter.unusedSimpArgs false

theorem lawInt : Keyed Tryz.prog 3 := int_keyed Tryz.underlying3
theorem zeroUnit (w : World) : (zeroValue 40).run Tryz.prog w = .ok (.agg #[]) w := by kernel_rfl

/-- Those who were met. -/
def metD (l : List (Int × Int)) (i : Nat) : DataW Unit := setOf (.agg []) ((l.take i).map fun x => Lit.int .i64 x.1)
theorem metD_zero (l : List (Int × Int)) : metD l 0 = .map [] := rfl
theorem metD_succ (l : List (Int × Int)) {i : Nat} (h : i < l.length) : metD l (i + 1) = (metD l i).put (.int .i64 l[i].1) (.agg []) := by
  unfold metD
  rw [List.take_succ_eq_append_getElem h, List.map_append]
  exact setOf_snoc _ _ _
theorem met_has (l : List (Int × Int)) (i : Nat) (x : Int) : Maps.has (metD l i) (.int .i64 x) = (l.take i).any fun z => decide (z.1 = x) := by
  unfold metD
  rw [has_setOf _ _ _ (fun y hy => by obtain ⟨z, _, rfl⟩ := List.mem_map.1 hy; trivial), List.any_map]
  congr 1
  funext z
  simp only [Function.comp, Lit.sameKey]
  by_cases h : z.1 = x <;> simp [h]
theorem HpAt.turned {w w1 : World} {base hb mb : Nat} {l : List (Int × Int)} {sa : Option Addr} {sc : Nat} (h : HpAt w base hb mb l sa sc) (hg : w.grownBy w1 (some mb)) : HpAt w1 base hb mb l sa sc := by
  refine ⟨h.k.grown hg (fun e => by injection e with e; exact h.lo.2 e.symm), h.own.kept hg ?_, h.ne, h.lo, Nat.lt_of_lt_of_le h.mh hg.size⟩
  cases sa with
  | none => exact .inl rfl
  | some a => exact .inr (fun e => by injection e with e; exact (h.ne a rfl).2 e)
theorem owned_hk {w w' : World} {base mb n : Nat} {D : DataW Unit} (h : w.ownsMap Tryz.prog 3 unitElem mb n D) (hk : Hk base mb w w') : w'.ownsMap Tryz.prog 3 unitElem mb n D := by
  obtain ⟨es, clock, hb, F, hs, hD⟩ := h
  exact ⟨es, clock, hk.2.trans hb, F, hs, hD⟩
theorem keepP_len {l : List (Int × Int)} (x : Int × Int) (h : l.length ≤ 7) : (keepP l x).length ≤ 7 := by
  unfold keepP
  split
  · rw [List.length_take, downP_len, swapL_len, upP_len]; simp; omega
  · rw [upP_len]; simp; omega

/-- What is kept of the first i. -/
def keptN (l : List (Int × Int)) (i : Nat) : List (Int × Int) := (leftN l i).foldl keepP []
theorem keptN_succ (l : List (Int × Int)) {i : Nat} (h : i < l.length) : keptN l (i + 1) = if (∀ z ∈ l.take i, z.1 ≠ l[i].1) ∧ MayS l[i] then keepP (keptN l i) l[i] else keptN l i := by
  unfold keptN
  rw [leftN_succ l i h, List.foldl_append]
  split <;> rfl

set_option maxRecDepth 8000 in
set_option maxHeartbeats 3200000 in
theorem choose_any (la : Option Addr) (ca : Nat) (l : List (Int × Int)) (w : World) (hl : l.length ≤ 4096) (hw : ∀ x ∈ l, InI x) (h1 : SeatsAt w la l) :
    Calls Tryz.prog 4 #[.slice la l.length ca] w fun e w' => ∃ v, e = .returned v ∧ w'.ownsRow w.heap.size 39 2 v (srtP (keptN l l.length) 1).length (flatS (srtP (keptN l l.length) 1)) ∧ Below w.heap.size w w' := by
  have hmm := @run_makeMap Tryz.prog
  obtain ⟨W0, hW0⟩ : ∃ W0, W0 = (((w.alloc (.cells #[] 39)).alloc (.cells #[.slice (some ⟨w.heap.size, 0, none⟩) 0 0] 36)).alloc (.map #[] 0)) := ⟨_, rfl⟩
  have B0 : Below w.heap.size w W0 := by rw [hW0]; exact (((Below.refl _ _).alloc (Nat.le_refl _) _).alloc (by simp) _).alloc (by simp; omega) _
  have G0 : HpAt W0 w.heap.size (w.heap.size + 1) (w.heap.size + 1 + 1) [] (some ⟨w.heap.size, 0, none⟩) 0 := by
    rw [hW0]
    have k := (Blk.new (w.alloc (.cells #[] 39)) #[.slice (some ⟨w.heap.size, 0, none⟩) 0 0] 36).alloc (.map #[] 0)
    rw [World.size_alloc] at k
    refine ⟨k, ((World.ownsRow_made w #[] 0 (Nat.le_refl _) (Nat.zero_le _) rfl).alloc _).alloc _, (fun a ha => by injection ha with ha; subst ha; simp only; omega), by omega, by simp⟩
  have M0 : W0.ownsMap Tryz.prog 3 unitElem (w.heap.size + 1 + 1) 0 (metD l 0) := by
    rw [hW0, metD_zero]
    have := World.ownsMap_made (H := Unit) ((w.alloc (.cells #[] 39)).alloc (.cells #[.slice (some ⟨w.heap.size, 0, none⟩) 0 0] 36)) Tryz.prog 3 unitElem
    simpa using this
  go_enter Tryz.func4, Tryz.ntmps4
  go_upto_block 0 with fail
  rw [← hW0]
  clear hW0
  go_cut [] (fun wx => ∃ sa sc, HpAt wx w.heap.size (w.heap.size + 1) (w.heap.size + 1 + 1) (keptN l l.length) sa sc ∧ (keptN l l.length).length ≤ 7 ∧ Below w.heap.size w wx)
  case rest =>
    clear G0 M0 B0 hmm
    obtain ⟨sa, sc, G, h7, B⟩ := hcut
    generalize wc = wx at *
    obtain ⟨m, hm⟩ : ∃ m, keptN l l.length = m := ⟨_, rfl⟩
    rw [hm] at G h7
    have HMM := show Hid (_ = _) from hm
    clear hm
    have c0 : wx.cell? ⟨w.heap.size + 1, 0, none⟩ = some (.slice sa m.length sc) := (G.k.cell 0).trans rfl
    have z0 := G.k.lt
    by_cases hz : m = []
    · subst hz
      have hsr : srtP [] 1 = [] := srtP_end (by simp)
      have HS := show Hid (_ = _) from hsr
      clear hsr
      have HO := show Hid (_) from G.own
      simp only [List.length_nil] at c0
      clear G
      go_wp2_with fail
      refine (sortF_any sa sc 0 (by omega) wx (fun w' => wx = w') (ins_none sa sc wx)).mono ?_
      rintro e w2 ⟨rfl, rfl⟩
      go_wp2
      go_ret
      exact ⟨_, rfl, by rw [HMM.out, HS.out]; exact HO.out, B⟩
    · obtain ⟨g, cur, hsa, _⟩ := G.row hz
      subst hsa
      have hpos : 0 < m.length := List.length_pos_iff.2 hz
      go_wp2_with fail
      refine (sortF_any (some ⟨g, 0, none⟩) sc m.length (by omega) wx _ (ins_any g sc m hpos (by omega) w.heap.size (w.heap.size + 1) (w.heap.size + 1 + 1) wx G)).mono ?_
      rintro e w2 ⟨rfl, G2, K2⟩
      have c2 : w2.cell? ⟨w.heap.size + 1, 0, none⟩ = some (.slice (some ⟨g, 0, none⟩) (srtP m 1).length sc) := (G2.k.cell 0).trans rfl
      have z2 := G2.k.lt
      have HO := show Hid (_) from G2.own
      clear G G2 c0 z0
      go_wp2
      go_ret
      exact ⟨_, rfl, by rw [HMM.out]; exact HO.out, B.trans K2.1⟩
  case first =>
    go_wp2_with fail
    go_loopw [14] (fun iv wv => ∃ (i : Nat) (sa : Option Addr) (sc : Nat), i ≤ l.length ∧ iv = .int .i64 i ∧ HpAt wv w.heap.size (w.heap.size + 1) (w.heap.size + 1 + 1) (keptN l i) sa sc ∧ (keptN l i).length ≤ 7 ∧ wv.ownsMap Tryz.prog 3 unitElem (w.heap.size + 1 + 1) i (metD l i) ∧ Below w.heap.size w wv) (fun iv _ => l.length - (intOf iv).toNat)
    case atStart => exact ⟨0, _, _, Nat.zero_le _, rfl, G0, by simp [keptN, leftN], M0, B0⟩
    case round =>
      clear G0 M0 B0
      obtain ⟨i, sa, sc, hi, rfl, G, h7, M, B⟩ := hrel
      by_cases hlt : i < l.length
      rotate_left
      · have hge : ¬ (i : Int) < (l.length : Int) := by omega
        have hie : i = l.length := by omega
        subst hie
        go_wp2_with fail
        go_meet
        case rel => exact ⟨sa, sc, G, h7, B⟩
      · have hlt' : (i : Int) < (l.length : Int) := by omega
        obtain ⟨b1, o1, e1, z1, a1, a2⟩ := (h1.below B).one hlt
        subst e1
        have hkn := keptN_succ l hlt
        have hmd := metD_succ l hlt
        have hin := hw _ (List.getElem_mem hlt)
        have hhas := met_has l i l[i].1
        have hfst : (∀ z ∈ l.take i, z.1 ≠ l[i].1) ↔ ((l.take i).any fun z => decide (z.1 = l[i].1)) = false := by
          rw [List.any_eq_false]
          exact ⟨fun h z hz => by simpa using h z hz, fun h z hz => by simpa using h z hz⟩
        generalize l[i] = x at *
        obtain ⟨xk, xv⟩ := x
        simp only at a1 a2 hkn hmd hin hhas hfst
        have hwf : (Lit.int .i64 xk).wf = true := by
          have := hin.1
          simp [Lit.wf, IntKind.min, IntKind.max, IntKind.signed, IntKind.bits]
          simp only at this
          omega
        have hkey : keyOf Tryz.prog 3 (.int .i64 xk) = some (.int .i64 xk) := keyOf_int_mk Tryz.underlying3 hwf
        have HK := show Hid (_) from hkn
        have HM := show Hid (_) from hmd
        have HF := show Hid (_) from hfst
        obtain ⟨again, hag⟩ : ∃ z, ((l.take i).any fun z => decide (z.1 = xk)) = z := ⟨_, rfl⟩
        rw [hag] at hhas
        have HAG := show Hid (_ = _) from hag
        clear hkn hmd hfst hag hin hwf
        have bA : Below wr.heap.size wr (wr.alloc (.cells #[.int .i64 xk, .int .i64 xv] 39)) := (Below.refl _ _).alloc (Nat.le_refl _) _
        have kS := Blk.new wr #[.int .i64 xk, .int .i64 xv] 39
        have G2 := G.next bA
        have M2 := M.alloc (.cells #[.int .i64 xk, .int .i64 xv] 39)
        have B2 := B.trans (bA.mono B.size)
        have zmb := G.mh
        go_upto_region 6 with fail
        clear a1 a2 G M B bA
        generalize wr.alloc (.cells #[.int .i64 xk, .int .i64 xv] 39) = w2 at *
        generalize wr.heap.size = sb at *
        have s0 := (kS.cell 0).trans rfl
        have zs := kS.lt
        go_upto_region 7 with (at_lookup; refine wpList_lookup_own_unit _ rfl _ _ 37 rfl 3 40 lawInt Tryz.underlying37 (zeroUnit _) (w.heap.size + 1 + 1) i _ rfl M2 _ _ rfl hkey ?_)
        have bU : Below w2.heap.size w2 (w2.alloc (.cells #[] 40)) := (Below.refl _ _).alloc (Nat.le_refl _) _
        have G3 := G2.next bU
        have M3 := M2.alloc (.cells #[] 40)
        have B3 := B2.trans (bU.mono B2.size)
        have k3 := kS.alloc (.cells #[] 40)
        clear G2 M2 B2 kS bU s0 zs
        generalize w2.alloc (.cells #[] 40) = w3 at *
        have s0 := (k3.cell 0).trans rfl
        have zs := k3.lt
        go_upto_region 8 with (at_mapUpdate; refine wpList_mapUpdate_own _ rfl _ _ _ 37 rfl 3 40 lawInt Tryz.underlying37 (unitElem (H := Unit)) (w.heap.size + 1 + 1) i _ rfl M3 (by unfold maxLen; omega) _ _ _ rfl rfl hkey _ [] unitElem_mk ?_; intro w4 M4 hg4)
        have G4 := G3.turned hg4
        have B4 : Below w.heap.size w w4 := B3.grown hg4 B3.size (fun k e => by injection e with e; omega)
        have k4 := k3.grown hg4 (fun e => by injection e with e; omega)
        rw [← HM.out] at M4
        clear G3 M3 B3 k3 s0 zs hg4 hhas hkey
        have s0 := (k4.cell 0).trans rfl
        have s1 := (k4.cell 1).trans rfl
        have zs := k4.lt
        cases again with
        | true =>
          have HE : Hid (keptN l (i + 1) = keptN l i) := by
            show _ = _
            rw [HK.out, if_neg (fun q => by have := HF.out.1 q.1; rw [HAG.out] at this; cases this)]
          clear HK HF HAG HM
          go_wp2
          exact ⟨⟨i + 1, sa, sc, by omega, by go_num, by rw [HE.out]; exact G4, by rw [HE.out]; exact h7, M4, B4⟩, by simp [intOf]; omega⟩
        | false =>
          have HE : Hid (keptN l (i + 1) = if MayS (xk, xv) then keepP (keptN l i) (xk, xv) else keptN l i) := by
            show _ = _
            rw [HK.out]
            have := HF.out.2 HAG.out
            by_cases hq : MayS (xk, xv)
            · rw [if_pos ⟨this, hq⟩, if_pos hq]
            · rw [if_neg (fun z => hq z.2), if_neg hq]
          clear HK HF HAG HM
          go_wp2_with fail
          refine (mayBe_any xk xv w4).mono ?_
          rintro e w5 ⟨rfl, b5⟩
          have G5 := G4.next b5
          have M5 := M4.kept (row := none) ⟨b5.os, b5.tape, b5.output, b5.size, fun k hk _ => b5.block k hk⟩ (by simp)
          have B5 := B4.trans (b5.mono B4.size)
          have k5 := k4.below b5 k4.lt
          clear G4 M4 B4 k4 s0 s1 zs b5
          have s0 := (k5.cell 0).trans rfl
          have s1 := (k5.cell 1).trans rfl
          have zs := k5.lt
          by_cases hq : MayS (xk, xv)
          · have HE2 : Hid (keptN l (i + 1) = keepP (keptN l i) (xk, xv)) := by show _ = _; rw [HE.out, if_pos hq]
            rw [decide_eq_true hq]
            clear HE hq
            go_wp2_with fail
            refine (keep_any sa sc (keptN l i) xk xv h7 w.heap.size (w.heap.size + 1) (w.heap.size + 1 + 1) w5 G5).mono ?_
            rintro e w6 ⟨rfl, g, sc2, G6, K6⟩
            have M6 := owned_hk M5 K6
            have B6 := B5.trans K6.1
            go_wp2
            exact ⟨⟨i + 1, _, sc2, by omega, by go_num, by rw [HE2.out]; exact G6, by rw [HE2.out]; exact keepP_len _ h7, M6, B6⟩, by simp [intOf]; omega⟩
          · have HE2 : Hid (keptN l (i + 1) = keptN l i) := by show _ = _; rw [HE.out, if_neg hq]
            rw [decide_eq_false hq]
            clear HE hq
            go_wp2
            exact ⟨⟨i + 1, sa, sc, by omega, by go_num, by rw [HE2.out]; exact G5, by rw [HE2.out]; exact h7, M5, B5⟩, by simp [intOf]; omega⟩
end Go.Proofs.YtigbfbniicfpdaaGreat
