/- The answer's Give: a way at which nothing is wanted. -/
import Derived.Test.YtmhllihedejehaaGreatM18
import Derived.Shelf.SlGeneric
import Derived.Shelf.SlIterI.Nil
import Derived.Shelf.SortM.Plain
import Derived.Shelf.SortM.SortNone

namespace Go.Proofs.YtmhllihedejehaaGreat
open Go.RowKit
set_option linter.unusedVariables false
set_option linter.unusedSimpArgs false

section
variable {base gb : Nat} {wd root : Int} {L : List (Key × Int)} {o : Option Tr} {bar : List Int} {vL vB : Value} {li : Option Addr} {ci : Nat}
set_option maxRecDepth 8000 in
set_option maxHeartbeats 3200000 in
theorem rgive_none (x k pos l r : Int) (way key val : Key) (w : World) (hb : bar.length ≤ 1000000) (hL : L.length ≤ 1000000) (H : RFet w base gb wd root L o bar vL vB li ci) (hx : ¬ x ∈ bar) (hw : way ∉ L.map Prod.fst) :
    Calls Tryz.prog 15 #[.pointer (some ⟨gb, 0, none⟩), .int .i64 x, .string (str way), .agg #[.int .i64 k, .string (str key), .string (str val), .int .i64 pos, .int .u64 l, .int .u64 r]] w fun e w' => e = .returned (.int .i64 30) ∧ Below w.heap.size w w' := by
  have bA : Below w.heap.size w (w.alloc (.cells #[.int .i64 k, .string (str key), .string (str val), .int .i64 pos, .int .u64 l, .int .u64 r] 28)) := (Below.refl _ _).alloc (Nat.le_refl _) _
  have H1 := H.below bA
  have c5 := (H1.k.cell 5).trans rfl
  have c2 := (H1.k.cell 2).trans rfl
  have zf := H1.k.lt
  have K := rin_own base vB bar x _ hb H1.wb
  rw [decide_eq_false hx] at K
  obtain ⟨sa, sc, rfl, _⟩ := row_at H.wb
  obtain ⟨la, lc, rfl, hcl⟩ := row_at H1.wl
  have s2 := str_toList way
  clear H H1
  go_enter Tryz.func15, Tryz.ntmps15
  go_wp2_with fail
  refine K.mono ?_
  rintro e w1 ⟨rfl, rfl⟩
  clear K
  generalize w.alloc (.cells #[.int .i64 k, .string (str key), .string (str val), .int .i64 pos, .int .u64 l, .int .u64 r] 28) = wA at *
  go_wp2_with fail
  go_loopw [10] (fun kv wv => ∃ j : Nat, j ≤ L.length ∧ kv = .int .i64 j ∧ wA = wv) (fun kv _ => L.length - (intOf kv).toNat)
  case atStart => exact ⟨0, Nat.zero_le _, rfl, rfl⟩
  case round =>
    obtain ⟨j, hj, rfl, rfl⟩ := hrel
    by_cases hlt : j < L.length
    · have hlt' : (j : Int) < (L.length : Int) := by omega
      obtain ⟨g, e1, zg, ac⟩ := hcl (by omega)
      subst e1
      have a1 := ac _ _ (flatW_get L j hlt).1
      have hne : L[j].1 ≠ way := fun e => hw (List.mem_map.2 ⟨L[j], List.getElem_mem hlt, e⟩)
      clear ac
      generalize L[j].1 = wj at *
      have s1 := str_toList wj
      have hb1 : (wj == way) = false := by simpa using hne
      clear hcl hw
      go_wp2
      exact ⟨⟨j + 1, by omega, by go_num, trivial⟩, by simp [intOf]; omega⟩
    · have hge : ¬ (j : Int) < (L.length : Int) := by omega
      have hjl : j = L.length := by omega
      have HJ : Hid (j = L.length) := hjl
      have hq : ((j : Int) == (L.length : Int)) = true := by rw [beq_iff_eq]; omega
      clear hjl hcl hw
      go_wp2
      go_ret
      exact ⟨rfl, bA⟩
end
end Go.Proofs.YtmhllihedejehaaGreat

namespace Go.Proofs.YtmhllihedejehaaGreat
open Go.RowKit Go.Maps Go.Sort Go.Shelf
set_option linter.unusedVariables false
set_option linter.unusedSimpArgs false

def keysA_ren : Go.Shelf.Ren := ⟨fun | 7 => 39 | 10 => 64 | n => n, fun | 23 => 72 | 26 => 3 | 3 => 85 | 28 => 95 | 0 => 0 | 27 => 94 | 33 => 123 | 4 => 4 | n => n, fun | n => n⟩
theorem keysA : Go.Proofs.SlLaysZI.n7 Tryz.prog keysA_ren := {
  mixed := by kernel_rfl
  f7 := ⟨Tryz.f39.name, by decide, Tryz.func39.trans (congrArg some (by kernel_rfl))⟩
  f10 := ⟨Tryz.f64.name, by decide, Tryz.func64.trans (congrArg some (by kernel_rfl))⟩
  t0 := Tryz.underlying0
  a0 := Tryz.isAgg0
  z0 := Tryz.sizeOf0
  v0 := Tryz.zeroValue0
  t4 := Tryz.underlying4
  a4 := Tryz.isAgg4
  z4 := Tryz.sizeOf4
  v4 := Tryz.zeroValue4
  t23 := Tryz.underlying72
  a23 := Tryz.isAgg72
  z23 := Tryz.sizeOf72
  v23 := Tryz.zeroValue72
  t26 := Tryz.underlying3
  a26 := Tryz.isAgg3
  z26 := Tryz.sizeOf3
  v26 := Tryz.zeroValue3
  t27 := Tryz.underlying94
  a27 := Tryz.isAgg94
  z27 := Tryz.sizeOf94
  v27 := Tryz.zeroValue94
  t28 := Tryz.underlying95
  a28 := Tryz.isAgg95
  z28 := Tryz.sizeOf95
  v28 := Tryz.zeroValue95
  t33 := Tryz.underlying123
  a33 := Tryz.isAgg123
  z33 := Tryz.sizeOf123
  v33 := Tryz.zeroValue123 }
def sortedA_ren : Go.Shelf.Ren := ⟨fun | 6 => 38 | 8 => 62 | 9 => 63 | 11 => 80 | 13 => 82 | 12 => 81 | 23 => 99 | 24 => 100 | 14 => 90 | 15 => 91 | 16 => 92 | 17 => 93 | 18 => 94 | 19 => 95 | 20 => 96 | 21 => 97 | 22 => 98 | 25 => 102 | 26 => 103 | 27 => 104 | 28 => 105 | 29 => 106 | 30 => 107 | 31 => 108 | n => n, fun | 26 => 3 | 28 => 95 | 24 => 51 | 0 => 0 | 3 => 3 | 37 => 135 | 48 => 153 | 50 => 25 | 4 => 4 | 40 => 145 | 39 => 144 | 45 => 150 | 5 => 5 | 9 => 9 | 51 => 155 | 55 => 159 | 57 => 161 | 58 => 83 | 33 => 123 | n => n, fun | n => n⟩
theorem sortedA : Go.Proofs.SlLaysZI.n6 Tryz.prog sortedA_ren := {
  mixed := by kernel_rfl
  f6 := ⟨Tryz.f38.name, by decide, Tryz.func38.trans (congrArg some (by kernel_rfl))⟩
  f8 := ⟨Tryz.f62.name, by decide, Tryz.func62.trans (congrArg some (by kernel_rfl))⟩
  f11 := ⟨Tryz.f80.name, by decide, Tryz.func80.trans (congrArg some (by kernel_rfl))⟩
  t0 := Tryz.underlying0
  a0 := Tryz.isAgg0
  z0 := Tryz.sizeOf0
  v0 := Tryz.zeroValue0
  t24 := Tryz.underlying51
  a24 := Tryz.isAgg51
  z24 := Tryz.sizeOf51
  v24 := Tryz.zeroValue51
  t26 := Tryz.underlying3
  a26 := Tryz.isAgg3
  z26 := Tryz.sizeOf3
  v26 := Tryz.zeroValue3
  t28 := Tryz.underlying95
  a28 := Tryz.isAgg95
  z28 := Tryz.sizeOf95
  v28 := Tryz.zeroValue95
  i26 := by kernel_rfl }
def sortA_ren : Go.Shelf.Ren := ⟨fun | 5 => 63 | 8 => 82 | 7 => 81 | 19 => 99 | 20 => 100 | 10 => 90 | 11 => 91 | 12 => 92 | 13 => 93 | 14 => 94 | 15 => 95 | 16 => 96 | 17 => 97 | 18 => 98 | 30 => 102 | 31 => 103 | 32 => 104 | 33 => 105 | 34 => 106 | 35 => 107 | 40 => 108 | n => n, fun | 23 => 51 | 25 => 3 | 3 => 3 | 32 => 135 | 22 => 51 | 0 => 0 | 44 => 153 | 46 => 25 | 4 => 4 | 36 => 145 | 35 => 144 | 41 => 150 | 5 => 5 | 9 => 9 | 53 => 155 | 57 => 159 | 63 => 161 | 64 => 83 | n => n, fun | n => n⟩
theorem sortA : Go.Proofs.SlLaysM.n5 Tryz.prog sortA_ren := {
  mixed := by kernel_rfl
  f5 := ⟨Tryz.f63.name, by decide, Tryz.func63.trans (congrArg some (by kernel_rfl))⟩
  f7 := ⟨Tryz.f81.name, by decide, Tryz.func81.trans (congrArg some (by kernel_rfl))⟩
  f8 := Tryz.func82.trans (congrArg some (by kernel_rfl))
  f10 := ⟨Tryz.f90.name, by decide, Tryz.func90.trans (congrArg some (by kernel_rfl))⟩
  f11 := ⟨Tryz.f91.name, by decide, Tryz.func91.trans (congrArg some (by kernel_rfl))⟩
  f12 := ⟨Tryz.f92.name, by decide, Tryz.func92.trans (congrArg some (by kernel_rfl))⟩
  f13 := ⟨Tryz.f93.name, by decide, Tryz.func93.trans (congrArg some (by kernel_rfl))⟩
  f14 := ⟨Tryz.f94.name, by decide, Tryz.func94.trans (congrArg some (by kernel_rfl))⟩
  f15 := ⟨Tryz.f95.name, by decide, Tryz.func95.trans (congrArg some (by kernel_rfl))⟩
  f16 := ⟨Tryz.f96.name, by decide, Tryz.func96.trans (congrArg some (by kernel_rfl))⟩
  f17 := ⟨Tryz.f97.name, by decide, Tryz.func97.trans (congrArg some (by kernel_rfl))⟩
  f18 := ⟨Tryz.f98.name, by decide, Tryz.func98.trans (congrArg some (by kernel_rfl))⟩
  f19 := Tryz.func99.trans (congrArg some (by kernel_rfl))
  f20 := Tryz.func100.trans (congrArg some (by kernel_rfl))
  f30 := ⟨Tryz.f102.name, by decide, Tryz.func102.trans (congrArg some (by kernel_rfl))⟩
  f31 := Tryz.func103.trans (congrArg some (by kernel_rfl))
  f32 := Tryz.func104.trans (congrArg some (by kernel_rfl))
  f33 := ⟨Tryz.f105.name, by decide, Tryz.func105.trans (congrArg some (by kernel_rfl))⟩
  f34 := ⟨Tryz.f106.name, by decide, Tryz.func106.trans (congrArg some (by kernel_rfl))⟩
  f35 := ⟨Tryz.f107.name, by decide, Tryz.func107.trans (congrArg some (by kernel_rfl))⟩
  f40 := ⟨Tryz.f108.name, by decide, Tryz.func108.trans (congrArg some (by kernel_rfl))⟩
  t0 := Tryz.underlying0
  a0 := Tryz.isAgg0
  z0 := Tryz.sizeOf0
  v0 := Tryz.zeroValue0
  t3 := Tryz.underlying3
  a3 := Tryz.isAgg3
  z3 := Tryz.sizeOf3
  v3 := Tryz.zeroValue3
  t4 := Tryz.underlying4
  a4 := Tryz.isAgg4
  z4 := Tryz.sizeOf4
  v4 := Tryz.zeroValue4
  t5 := Tryz.underlying5
  a5 := Tryz.isAgg5
  z5 := Tryz.sizeOf5
  v5 := Tryz.zeroValue5
  t9 := Tryz.underlying9
  a9 := Tryz.isAgg9
  z9 := Tryz.sizeOf9
  v9 := Tryz.zeroValue9
  t22 := Tryz.underlying51
  a22 := Tryz.isAgg51
  z22 := Tryz.sizeOf51
  v22 := Tryz.zeroValue51
  t23 := Tryz.underlying51
  a23 := Tryz.isAgg51
  z23 := Tryz.sizeOf51
  v23 := Tryz.zeroValue51
  t25 := Tryz.underlying3
  a25 := Tryz.isAgg3
  z25 := Tryz.sizeOf3
  v25 := Tryz.zeroValue3
  t32 := Tryz.underlying135
  a32 := Tryz.isAgg135
  z32 := Tryz.sizeOf135
  v32 := Tryz.zeroValue135
  t35 := Tryz.underlying144
  a35 := Tryz.isAgg144
  z35 := Tryz.sizeOf144
  v35 := Tryz.zeroValue144
  t36 := Tryz.underlying145
  a36 := Tryz.isAgg145
  z36 := Tryz.sizeOf145
  v36 := Tryz.zeroValue145
  t41 := Tryz.underlying150
  a41 := Tryz.isAgg150
  z41 := Tryz.sizeOf150
  v41 := Tryz.zeroValue150
  t44 := Tryz.underlying153
  a44 := Tryz.isAgg153
  z44 := Tryz.sizeOf153
  v44 := Tryz.zeroValue153
  t46 := Tryz.underlying25
  a46 := Tryz.isAgg25
  z46 := Tryz.sizeOf25
  v46 := Tryz.zeroValue25
  t53 := Tryz.underlying155
  a53 := Tryz.isAgg155
  z53 := Tryz.sizeOf155
  v53 := Tryz.zeroValue155
  t57 := Tryz.underlying159
  a57 := Tryz.isAgg159
  z57 := Tryz.sizeOf159
  v57 := Tryz.zeroValue159
  t63 := Tryz.underlying161
  a63 := Tryz.isAgg161
  z63 := Tryz.sizeOf161
  v63 := Tryz.zeroValue161
  t64 := Tryz.underlying83
  a64 := Tryz.isAgg83
  z64 := Tryz.sizeOf83
  v64 := Tryz.zeroValue83 }

theorem sortsA (m : Nat) : AnyZI.SortsIn Tryz.prog sortedA_ren Fence.wide m :=
  ⟨fun blk off cap ss W hH hblk hsz => callsIn_wide.2 (AnyM.slices_Sort_int sortA blk off cap ss W hH hblk hsz),
   fun p cap W => callsIn_wide.2 (AnyM.slices_Sort_int_none sortA p cap W)⟩
end Go.Proofs.YtmhllihedejehaaGreat

namespace Go.Proofs.YtmhllihedejehaaGreat
open Go.RowKit Go.Maps Go.Sort Go.Shelf
attribute [local go_sem] Oper.semAt_some
set_option linter.unusedVariables false
set_option linter.unusedSimpArgs false

set_option maxRecDepth 8000 in
set_option maxHeartbeats 2000000 in
theorem barred_any (base fb : Nat) (wd root : Int) (pt : PT) (o : Option Tr) (bar : List Int) (q : Option Addr) (mb : Nat) (w : World) (H : FetAt base w fb wd root pt o bar q mb) (hmax : Maps.size (barD bar) ≤ 1000000) :
    Calls Tryz.prog 16 #[.pointer (some ⟨fb, 0, none⟩)] w fun e w' => ∃ (v : Value) (ss : List Int), e = .returned v ∧ ss.Perm (intKeys (barD bar)) ∧
      w'.ownsRow w.heap.size 3 1 v ss.length ((ss.mergeSort (fun x y => decide (x ≤ y))).map encZ) ∧ Below w.heap.size w w' := by
  refine (callsIn_wide (n := 6)).1 ?_
  have hown := H.m
  have hbl := H.mlt
  have c5 := (H.k.cell 5).trans rfl
  have zf := H.k.lt
  have hseq : SeqGives Fence.wide 2 Tryz.prog 64 #[.pointer (some ⟨w.heap.size, 0, none⟩)] encZ (fun ss => ss.Perm (intKeys (barD bar))) (Maps.size (barD bar)) (w.alloc (.cells #[.map (some mb)] 72)) :=
    AnyZI.keys_gives (ρ := keysA_ren) { keysA with } Fence.wide _ trivial rfl (by omega) w.heap.size mb bar.length (barD bar) _ (by simp) (by simp) (by
      obtain ⟨es, clock, hb, Ft, hs, hD⟩ := hown
      exact ⟨es, clock, (Below.heap_alloc _ _ mb hbl).trans hb, Ft, hs, hD⟩)
  have cK : ∀ mb W, CallsIn Fence.wide 5 Tryz.prog 39 #[.map mb] W fun e w' => e = .returned (.func (.func 64) #[] #[.pointer (some ⟨W.heap.size, 0, none⟩)]) ∧ w' = W.alloc (.cells #[.map mb] 72) := fun mb W => AnyZI.keys_in keysA Fence.wide 5 trivial rfl mb W
  have cS := AnyZI.sorted_in sortedA Fence.wide 5 trivial trivial trivial trivial rfl (by omega) (sortsA _) (enters_of Tryz.func63 (by kernel_rfl) rfl) 64 #[.pointer (some ⟨w.heap.size, 0, none⟩)] trivial (enters_of Tryz.func64 (by kernel_rfl) rfl) _ _ (by unfold maxLen; omega) (by omega) _ hseq
  change CallsIn _ _ Tryz.prog 38 _ _ _ at cS
  have hfK : Fence.wide.fn 39 := trivial
  have hfS : Fence.wide.fn 38 := trivial
  clear H hown
  refine callsIn_of_wp Tryz.func16 rfl trivial ?_ rfl
  simp only [Tryz.ntmps16, List.size_toArray, List.length_cons, List.length_nil, Nat.reduceAdd, Nat.reduceSub, Array.replicate_succ, Array.replicate_zero, List.push_toArray, List.append_toArray, List.nil_append, List.cons_append]
  gi_wp2_with (first
    | (gi_at_call 39; refine (cK _ _).mono ?_; rintro e w' ⟨rfl, rfl⟩)
    | (gi_at_call 38; refine cS.mono ?_; rintro e w' ⟨v, ss, rfl, hS, hrow, hnil, hb⟩))
  go_ret
  exact ⟨v, ss, rfl, hS, ownsRow_base_a hrow (by simp), ((Below.refl _ w).alloc (Nat.le_refl _) _).trans (hb.mono (by simp))⟩
end Go.Proofs.YtmhllihedejehaaGreat

namespace Go.Proofs.YtmhllihedejehaaGreat
open Go.RowKit Go.Maps
set_option linter.unusedVariables false
set_option linter.unusedSimpArgs false

theorem same_int (x y : Int) : (Lit.int .i64 x).sameKey (.int .i64 y) = decide (x = y) := by
  by_cases h : x = y <;> simp [Lit.sameKey, h]
theorem bar_entries : ∀ (n : Nat) (l : List Int), l.length = n → l.Nodup → ∃ es, barD l = .map es ∧ (es.map fun p => p.1).Perm (l.map fun x => Lit.int .i64 x)
  | 0, l, h, _ => by
    have e : l = [] := List.eq_nil_of_length_eq_zero h
    subst e
    exact ⟨[], rfl, List.Perm.refl _⟩
  | n + 1, l, h, hn => by
    rcases List.eq_nil_or_concat l with e | ⟨r, x, e⟩
    · rw [e] at h; cases h
    · rw [List.concat_eq_append] at e
      subst e
      rw [List.nodup_append] at hn
      obtain ⟨es, h1, h2⟩ := bar_entries n r (by simpa using h) hn.1
      have hx : x ∉ r := fun q => hn.2.2 x q x (by simp) rfl
      have hfil : es.filter (fun p => !p.1.sameKey (.int .i64 x)) = es := by
        rw [List.filter_eq_self]
        intro p hp
        have hm : p.1 ∈ r.map fun x => Lit.int .i64 x := h2.mem_iff.1 (List.mem_map.2 ⟨p, hp, rfl⟩)
        obtain ⟨y, hy, e⟩ := List.mem_map.1 hm
        rw [← e, same_int]
        have : ¬ y = x := fun q => hx (q ▸ hy)
        simp [this]
      refine ⟨DataW.insert (.int .i64 x, .agg []) es, ?_, ?_⟩
      · rw [barD_snoc, h1]
        show DataW.map (DataW.insert _ (es.filter _)) = _
        rw [hfil]
      · have p1 := (Go.WideShapes.insert_perm ((.int .i64 x, .agg []) : Lit × DataW Unit) es).map (fun p => p.1)
        refine p1.trans ?_
        rw [List.map_cons, List.map_append]
        refine (h2.cons _).trans ?_
        exact (List.perm_append_singleton _ _).symm
theorem bar_keys (l : List Int) (hn : l.Nodup) : (intKeys (barD l)).Perm l ∧ Maps.size (barD l) = l.length := by
  obtain ⟨es, h1, h2⟩ := bar_entries l.length l rfl hn
  rw [h1]
  refine ⟨?_, ?_⟩
  · have := h2.map Go.intOf
    rw [List.map_map, List.map_map] at this
    have e : ((Go.intOf ∘ fun x => Lit.int .i64 x) : Int → Int) = id := rfl
    rw [e, List.map_id] at this
    exact this
  · have := h2.length_eq
    simpa [Maps.size] using this
/-- Two rising lists of the same are one. -/
theorem rising_uniq {l m : List Int} (h : l.Perm m) (hl : l.Pairwise fun x y => x ≤ y) (hm : m.Pairwise fun x y => x ≤ y) : l = m := h.eq_of_pairwise (fun a b _ _ h1 h2 => by omega) hl hm
theorem sorted_bar {ss sb bar : List Int} (h1 : ss.Perm (intKeys (barD bar))) (hn : bar.Nodup) (h2 : sb.Perm bar) (h3 : sb.Pairwise fun x y => x ≤ y) : ss.mergeSort (fun x y => decide (x ≤ y)) = sb := by
  refine rising_uniq ((List.mergeSort_perm _ _).trans (h1.trans ((bar_keys bar hn).1.trans h2.symm))) ?_ h3
  have := List.pairwise_mergeSort (le := fun x y : Int => decide (x ≤ y)) (fun a b c q1 q2 => by simp at *; omega) (fun a b => by simp; omega) ss
  exact this.imp (fun q => by simpa using q)
end Go.Proofs.YtmhllihedejehaaGreat
