/- Things of many cells, whole: loads of them, in plain regions and behind guards. -/
import Derived.Test.YtaifkidpdmhciaaGreatXThings
import Derived.Deep.MidRow
import Derived.Deep.WholeRow
import Derived.Deep.CutRange
import Derived.Deep.DeepCutAuto
import Derived.Test.YtaifkidpdmhciaaGreatWPut

namespace Go.Proofs.YtaifkidpdmhciaaGreat
open Go.RowKit
set_option linter.unusedVariables false

theorem wpList_on {P : Program} {ops : Array Oper} {rest : List Oper} {o : Oper} {a : Act} {w : World} {Q : Exit → Act → World → Prop} (hw : Region.wanted o (yielded ops a.tmps) = true)
    (h : ∀ K : Act → World → Prop, (∀ a w, wpList P ops Q rest a w → K a w) → o.wp P a w K Q) : wpList P ops Q (o :: rest) a w :=
  wpList_step fun K hK => by rw [if_pos hw]; exact h K hK

theorem Blk.range {w : World} {b : Nat} {C : Array Value} {t : TypeId} (h : Blk w b C t) : w.rangeAt b 0 C.toList := fun j v hv => by
  rw [h.cell, Nat.zero_add]
  simpa using hv

theorem wpList_load_whole {P : Program} {ops : Array Oper} {rest : List Oper} {op : Oper} {a : Act} {w : World} {Q : Exit → Act → World → Prop} (hw : Region.wanted op (yielded ops a.tmps) = true) (ty : TypeId) (x : Operand) (ho : op.op = .load ty x)
    (b : Nat) (hx : a.eval x = .pointer (some ⟨b, 0, none⟩)) (C : Array Value) (t : TypeId) (d : TypeDesc) (hc : Blk w b C t)
    (hu : P.underlying ty = some d) (hd : d.isRow = true) (hi : (P.info? ty).map (·.size) = some C.size)
    (h : wpList P ops Q rest (a.put op.dst (.agg C)) w) : wpList P ops Q (op :: rest) a w :=
  wpList_on hw fun _ hK => wp_load_mid ty x ho b 0 hx C.toList d hc.range hu hd (by rw [Array.length_toList]; exact hi) (hK _ _ (by rw [Array.toArray_toList]; exact h))
end Go.Proofs.YtaifkidpdmhciaaGreat

namespace Go.Proofs.YtaifkidpdmhciaaGreat
open Go.RowKit
set_option linter.unusedVariables false
set_option linter.unusedSimpArgs false

set_option maxHeartbeats 800000 in
theorem attempt_56 (caps : Array Value) (w : World) (R : Bool → World → Prop)
    (hdo : Calls Tryz.prog 56 caps (w.alloc (.cells #[.int .i64 0] 35)) fun e w1 => ((e = .returned (.tuple #[]) ∧ R true w1) ∨ (e = .panicked [{ v := .iface 133 (.int .i64 3), recovered := false }] ∧ R false w1)) ∧ w1.cell? ⟨w.heap.size, 0, none⟩ = some (.int .i64 0) ∧ w1.frozen? ⟨w.heap.size, 0, none⟩ = false) :
    Calls Tryz.prog 55 #[.func (.func 56) #[] caps] w fun e w' => ∃ ok w1, R ok w1 ∧ e = .returned (.int .i64 (errB ok)) ∧ w' = w1.setCell ⟨w.heap.size, 0, none⟩ (.int .i64 (errB ok)) := by
  have hmf : ∀ (fn : Fn) (first cap : Array Value) (w : World), (Instr.makeFunc fn first cap).run Tryz.prog w = .ok (.func fn first cap) w := fun _ _ _ _ => rfl
  go_enter_defers Tryz.func55, Tryz.ntmps55
  go_wp2_with fail
  refine hdo.mono ?_
  rintro e w1 ⟨⟨rfl, hR⟩ | ⟨rfl, hR⟩, hc, hz⟩
  · go_wp2
    refine leaves_cons (f := 83) (args := #[.pointer (some ⟨w.heap.size, 0, none⟩)]) (by simp) (by simp [go_sem]) ?_
    refine (catch_idle ⟨w.heap.size, 0, none⟩ _).mono ?_
    rintro e u' w'' ⟨rfl, rfl, rfl⟩
    have hs : (w1.setCell ⟨w.heap.size, 0, none⟩ (.int .i64 0)).cell? ⟨w.heap.size, 0, none⟩ = some (.int .i64 0) := World.cell?_setCell_same _ _ _ hc
    simp only [Leaves, settle]
    exact ⟨.int .i64 0, by simp [results, Tryz.results55, go_sem, hs], true, w1, hR, rfl, rfl⟩
  · go_wp2
    refine leaves_cons (f := 83) (args := #[.pointer (some ⟨w.heap.size, 0, none⟩)]) (by simp) (by simp [go_sem]) ?_
    refine (catch_panicking ⟨w.heap.size, 0, none⟩ 0 3 [] _ hc hz).mono ?_
    rintro e u' w'' ⟨rfl, rfl, rfl⟩
    have hs : (w1.setCell ⟨w.heap.size, 0, none⟩ (.int .i64 3)).cell? ⟨w.heap.size, 0, none⟩ = some (.int .i64 3) := World.cell?_setCell_same _ _ _ hc
    simp only [settle, List.dropWhile_nil]
    simp only [Leaves]
    exact ⟨.int .i64 3, by simp [results, Tryz.results55, go_sem, hs], false, w1, hR, rfl, rfl⟩

set_option maxRecDepth 8000 in
set_option maxHeartbeats 1600000 in
theorem put_Record (C : Array Value) (hCn : C.size = 38) (o : Option (List UInt8)) (m : Bool) (w : World)
    (hW : ∀ (b : Nat) (w5 : World), PassAt w5 w.heap.size b [] → Blk w5 w.heap.size C 57 → w.heap.size ≠ b → Below w.heap.size w w5 →
      Calls Tryz.prog 35 #[.pointer (some ⟨b, 0, none⟩), .pointer (some ⟨w.heap.size, 0, none⟩)] w5 fun e w' => Wrote w.heap.size b o e w' ∧ Kp w.heap.size b w5 w')
    (hM : ∀ w5, Below w.heap.size w w5 → Calls Tryz.prog 36 #[(.agg C)] w5 fun e w' => e = .returned (.bool m) ∧ Below w5.heap.size w5 w') :
    Calls Tryz.prog 34 #[(.agg C), .func (.func 35) #[] #[], .func (.func 36) #[] #[]] w fun e w' => e = .returned (.tuple #[.string ⟨(resB o m).toArray⟩, .int .i64 (resE o m)]) ∧ Below w.heap.size w w' := by
  have hmf : ∀ (fn : Fn) (first cap : Array Value) (w : World), (Instr.makeFunc fn first cap).run Tryz.prog w = .ok (.func fn first cap) w := fun _ _ _ _ => rfl
  have kX := (((Blk.new w C 57).alloc (.cells #[.func (.func 35) #[] #[]] 89)).alloc (.cells #[.bool false, .slice none 0 0, .string ⟨#[]⟩] 109)).alloc (.cells #[.pointer (some ⟨w.heap.size + 2, 0, none⟩)] 91)
  have kW := ((Blk.new (w.alloc (.cells C 57)) #[.func (.func 35) #[] #[]] 89).alloc (.cells #[.bool false, .slice none 0 0, .string ⟨#[]⟩] 109)).alloc (.cells #[.pointer (some ⟨w.heap.size + 2, 0, none⟩)] 91)
  have kS := (Blk.new ((w.alloc (.cells C 57)).alloc (.cells #[.func (.func 35) #[] #[]] 89)) #[.bool false, .slice none 0 0, .string ⟨#[]⟩] 109).alloc (.cells #[.pointer (some ⟨w.heap.size + 2, 0, none⟩)] 91)
  have kV := Blk.new (((w.alloc (.cells C 57)).alloc (.cells #[.func (.func 35) #[] #[]] 89)).alloc (.cells #[.bool false, .slice none 0 0, .string ⟨#[]⟩] 109)) #[.pointer (some ⟨w.heap.size + 2, 0, none⟩)] 91
  have b4 : Below w.heap.size w ((((w.alloc (.cells C 57)).alloc (.cells #[.func (.func 35) #[] #[]] 89)).alloc (.cells #[.bool false, .slice none 0 0, .string ⟨#[]⟩] 109)).alloc (.cells #[.pointer (some ⟨w.heap.size + 2, 0, none⟩)] 91)) :=
    ((((Below.refl _ _).alloc (Nat.le_refl _) _).alloc (by simp) _).alloc (by simp; omega) _).alloc (by simp; omega) _
  have s4 : ((((w.alloc (.cells C 57)).alloc (.cells #[.func (.func 35) #[] #[]] 89)).alloc (.cells #[.bool false, .slice none 0 0, .string ⟨#[]⟩] 109)).alloc (.cells #[.pointer (some ⟨w.heap.size + 2, 0, none⟩)] 91)).heap.size = w.heap.size + 4 := by simp
  simp only [World.size_alloc, Nat.add_assoc, Nat.reduceAdd] at kW kS kV
  go_enter Tryz.func34, Tryz.ntmps34
  go_wp2_with fail
  generalize hW4 : (((w.alloc (.cells C 57)).alloc (.cells #[.func (.func 35) #[] #[]] 89)).alloc (.cells #[.bool false, .slice none 0 0, .string ⟨#[]⟩] 109)).alloc (.cells #[.pointer (some ⟨w.heap.size + 2, 0, none⟩)] 91) = w4 at *
  have be5 : Below w4.heap.size w4 (w4.alloc (.cells #[.int .i64 0] 35)) := (Below.refl _ _).alloc (Nat.le_refl _) _
  have kE := Blk.new w4 #[.int .i64 0] 35
  have kX5 := kX.below be5 kX.lt
  have kW5 := kW.below be5 kW.lt
  have kV5 := kV.below be5 kV.lt
  have hP5 : PassAt (w4.alloc (.cells #[.int .i64 0] 35)) w.heap.size (w.heap.size + 2) [] := ⟨.slice none 0 0, kS.below be5 kS.lt, World.ownsRow_nil _ _ _ _, by omega⟩
  have b5 : Below w.heap.size w (w4.alloc (.cells #[.int .i64 0] 35)) := b4.alloc b4.size _
  have hdo : Calls Tryz.prog 56 #[.pointer (some ⟨w.heap.size + 1, 0, none⟩), .pointer (some ⟨w.heap.size + 3, 0, none⟩), .pointer (some ⟨w.heap.size, 0, none⟩)] (w4.alloc (.cells #[.int .i64 0] 35)) fun e w1 =>
      ((e = .returned (.tuple #[]) ∧ (Kp w.heap.size (w.heap.size + 2) (w4.alloc (.cells #[.int .i64 0] 35)) w1 ∧ ∃ out, o = some out ∧ PassAt w1 w.heap.size (w.heap.size + 2) out)) ∨ (e = .panicked [{ v := .iface 133 (.int .i64 3), recovered := false }] ∧ (Kp w.heap.size (w.heap.size + 2) (w4.alloc (.cells #[.int .i64 0] 35)) w1 ∧ o = none))) ∧
      w1.cell? ⟨w4.heap.size, 0, none⟩ = some (.int .i64 0) ∧ w1.frozen? ⟨w4.heap.size, 0, none⟩ = false := by
    have d0 := kW5.cell 0
    have d1 := kV5.cell 0
    simp only [List.getElem?_toArray, List.getElem?_cons_zero] at d0 d1
    clear hM hmf
    go_enter Tryz.func56, Tryz.ntmps56
    go_wp2_with fail
    refine (hW (w.heap.size + 2) _ hP5 kX5 (by omega) b5).mono ?_
    rintro e w1 ⟨⟨out, ho, rfl, h1⟩ | ⟨ho, rfl⟩, k1⟩
    · have kE1 := kE.kp k1 (by omega)
      have q0 := kE1.cell 0
      simp only [List.getElem?_toArray, List.getElem?_cons_zero] at q0
      go_wp2
      go_end0
      exact ⟨.inl ⟨rfl, k1, out, ho, h1⟩, q0, kE1.frozen 0⟩
    · have kE1 := kE.kp k1 (by omega)
      have q0 := kE1.cell 0
      simp only [List.getElem?_toArray, List.getElem?_cons_zero] at q0
      go_wp2
      exact ⟨rfl, .inr ⟨rfl, k1, ho⟩, q0, kE1.frozen 0⟩
  refine (attempt_56 _ _ (fun ok w1 => Kp w.heap.size (w.heap.size + 2) (w4.alloc (.cells #[.int .i64 0] 35)) w1 ∧ (ok = true → ∃ out, o = some out ∧ PassAt w1 w.heap.size (w.heap.size + 2) out) ∧ (ok = false → o = none)) (hdo.mono ?_)).mono ?_
  · rintro e w1 ⟨⟨rfl, hK, out, ho, h1⟩ | ⟨rfl, hK, ho⟩, q0, q1⟩
    · exact ⟨.inl ⟨rfl, hK, fun _ => ⟨out, ho, h1⟩, fun h => by cases h⟩, q0, q1⟩
    · exact ⟨.inr ⟨rfl, hK, (fun h => by cases h), fun _ => ho⟩, q0, q1⟩
  clear hdo hW
  rintro e w' ⟨ok, w1, ⟨hK, hT, hF⟩, rfl, rfl⟩
  have kE1 := kE.kp hK (by omega)
  have kX1 := (kX5.kp hK (by omega)).setOther ⟨w4.heap.size, 0, none⟩ (by show _ ≠ w4.heap.size; omega) (.int .i64 (errB ok))
  have kV1 := (kV5.kp hK (by omega)).setOther ⟨w4.heap.size, 0, none⟩ (by show _ ≠ w4.heap.size; omega) (.int .i64 (errB ok))
  have b6 : Below w.heap.size w (w1.setCell ⟨w4.heap.size, 0, none⟩ (.int .i64 (errB ok))) := (b5.trans hK.below).setCell (p := ⟨w4.heap.size, 0, none⟩) b4.size _
  cases ok with
  | true =>
    obtain ⟨out, ho, h1⟩ := hT rfl
    subst ho
    have hP6 := h1.setOther kE1 (by decide) (show w.heap.size + 2 ≠ w4.heap.size by omega) 0 (.int .i64 (errB true))
    simp only [errB, if_true] at *
    generalize w1.setCell ⟨w4.heap.size, 0, none⟩ (.int .i64 0) = w6 at *
    clear hT hF
    go_upto_region 3 with fail
    refine wp_region_list ?_
    refine wpList_plain rfl (fun K hK => ?_)
    go_simp
    refine hK _ _ ?_
    clear hK K
    refine wpList_plain rfl (fun K hK => ?_)
    go_simp
    refine hK _ _ ?_
    clear hK K
    refine wpList_plain rfl (fun K hK => ?_)
    go_simp
    refine hK _ _ ?_
    clear hK K
    refine wpList_on (by kernel_rfl) (fun K hK => ?_)
    go_simp
    refine hK _ _ ?_
    clear hK K
    refine wpList_load_whole (by kernel_rfl) 57 _ rfl w.heap.size rfl C _ _ kX1 Tryz.underlying57 rfl (by rw [hCn]; kernel_rfl) ?_
    refine wpList_on (by kernel_rfl) (fun K hK => ?_)
    go_simp
    refine (hM _ b6).mono ?_
    rintro e w7 ⟨rfl, b7⟩
    refine hK _ _ ?_
    clear hK K
    refine wpList_on (by kernel_rfl) (fun K hK => ?_)
    go_simp
    refine hK _ _ ?_
    clear hK K
    refine wpList_plain rfl (fun K hK => ?_)
    go_simp
    refine hK _ _ ?_
    clear hK K
    refine wpList_nil ?_
    simp only [Exit.then]
    obtain ⟨v7, kS7, hown7, _⟩ := hP6.below b7
    obtain ⟨a7, c7, rfl⟩ := owns_form hown7
    have hcv := conv_own hown7
    have kV7 := kV1.below b7 kV1.lt
    have p0 := kV7.cell 0
    have p1 := kS7.cell 1
    simp only [List.getElem?_toArray, List.getElem?_cons_succ, List.getElem?_cons_zero] at p0 p1
    have b8 := b6.trans (b7.mono b6.size)
    cases m
    · go_wp2
      go_ret2
      exact ⟨rfl, b8⟩
    · go_wp2
      go_ret2
      exact ⟨rfl, b8⟩
  | false =>
    have ho := hF rfl
    subst ho
    simp only [errB, Bool.false_eq_true, if_false] at *
    generalize w1.setCell ⟨w4.heap.size, 0, none⟩ (.int .i64 3) = w6 at *
    clear hT hF s4
    go_wp2
    go_ret2
    exact ⟨rfl, b6⟩

end Go.Proofs.YtaifkidpdmhciaaGreat
