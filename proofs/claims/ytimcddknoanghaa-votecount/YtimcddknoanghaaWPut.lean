/- Put of a thing of each kind: the walk, then whether it may be (chapter 1, W3, W5). -/
import Derived.Test.YtimcddknoanghaaWTry
namespace Go.Proofs.Ytimcddknoanghaa.W
open Go.RowKit
set_option linter.unusedVariables false

def resB (o : Option (List UInt8)) (m : Bool) : List UInt8 := match o with | none => [] | some b => if m = true then b else []

def resE (o : Option (List UInt8)) (m : Bool) : Int := match o with | none => 3 | some _ => if m = true then 0 else 2

theorem conv_own {w : World} {base : Nat} {v : Value} {out : List UInt8} (h : w.ownsRow base 5 1 v out.length (bcells out)) : (convert 103 9 v).run Try.prog w = .ok (.string ⟨out.toArray⟩) w := by
  rcases h.2 with ⟨rfl, h0⟩ | ⟨g, cap, cur, rfl, _⟩
  · have e : out = [] := List.eq_nil_of_length_eq_zero h0
    subst e
    exact run_convert_bytes_nil (P := Try.prog) w 103 5 Try.underlying103 Try.underlying5 0 0 9 Try.underlying9
  · have hc := run_convert_bytes_arg (P := Try.prog) w 103 5 Try.underlying103 Try.underlying5 g 0 out.length cap (out.map fun b => (b.toNat : Int)) (by simp) (fun i hi => by
      have hx := h.cells (g := g) rfl i (Value.int .u8 (out[i].toNat : Int)) (by simp [bcells, hi])
      rw [show (⟨g, 0, none⟩ : Addr).add i = ⟨g, 0 + i, none⟩ by unfold Addr.add; split <;> simp_all] at hx
      rw [hx]
      simp [List.getD, hi]) 9 Try.underlying9
    have e : strOfNums (out.map fun b => (b.toNat : Int)) = ⟨out.toArray⟩ := by
      unfold strOfNums
      rw [List.map_map, List.map_congr_left (g := id) (fun b _ => by simp), List.map_id]
    rw [hc, e]

theorem PassAt.setOther {w : World} {base b k : Nat} {out : List UInt8} {cs : Array Value} {t : TypeId} (h : PassAt w base b out) (hk : Blk w k cs t) (ht : t ≠ 5) (hne : b ≠ k) (i : Nat) (v : Value) : PassAt (w.setCell ⟨k, i, none⟩ v) base b out := by
  obtain ⟨u, h1, h2, h3⟩ := h
  exact ⟨u, h1.setOther ⟨k, i, none⟩ hne v, owns_set h2 hk ht i v, h3⟩



set_option maxHeartbeats 1600000 in
theorem put_Vote (h r s : Int) (has : Bool) (bl f : Int) (o : Option (List UInt8)) (m : Bool) (w : World)
    (hW : ∀ (b : Nat) (w5 : World), PassAt w5 w.heap.size b [] → Blk w5 w.heap.size #[.int .i64 h, .int .i64 r, .int .i64 s, .bool has, .int .u64 bl, .int .i64 f] 34 → w.heap.size ≠ b → Below w.heap.size w w5 →
      Calls Try.prog 58 #[.pointer (some ⟨b, 0, none⟩), .pointer (some ⟨w.heap.size, 0, none⟩)] w5 fun e w' => Wrote w.heap.size b o e w' ∧ Kp w.heap.size b w5 w')
    (hM : ∀ w5, Below w.heap.size w w5 → Calls Try.prog 59 #[(.agg #[.int .i64 h, .int .i64 r, .int .i64 s, .bool has, .int .u64 bl, .int .i64 f])] w5 fun e w' => e = .returned (.bool m) ∧ Below w5.heap.size w5 w') :
    Calls Try.prog 57 #[(.agg #[.int .i64 h, .int .i64 r, .int .i64 s, .bool has, .int .u64 bl, .int .i64 f]), .func (.func 58) #[] #[], .func (.func 59) #[] #[]] w fun e w' => e = .returned (.tuple #[.string ⟨(resB o m).toArray⟩, .int .i64 (resE o m)]) ∧ Below w.heap.size w w' := by
  have hmf : ∀ (fn : Fn) (first cap : Array Value) (w : World), (Instr.makeFunc fn first cap).run Try.prog w = .ok (.func fn first cap) w := fun _ _ _ _ => rfl
  have kX := (((Blk.new w #[.int .i64 h, .int .i64 r, .int .i64 s, .bool has, .int .u64 bl, .int .i64 f] 34).alloc (.cells #[.func (.func 58) #[] #[]] 93)).alloc (.cells #[.bool false, .slice none 0 0, .string ⟨#[]⟩] 105)).alloc (.cells #[.pointer (some ⟨w.heap.size + 2, 0, none⟩)] 95)
  have kW := ((Blk.new (w.alloc (.cells #[.int .i64 h, .int .i64 r, .int .i64 s, .bool has, .int .u64 bl, .int .i64 f] 34)) #[.func (.func 58) #[] #[]] 93).alloc (.cells #[.bool false, .slice none 0 0, .string ⟨#[]⟩] 105)).alloc (.cells #[.pointer (some ⟨w.heap.size + 2, 0, none⟩)] 95)
  have kS := (Blk.new ((w.alloc (.cells #[.int .i64 h, .int .i64 r, .int .i64 s, .bool has, .int .u64 bl, .int .i64 f] 34)).alloc (.cells #[.func (.func 58) #[] #[]] 93)) #[.bool false, .slice none 0 0, .string ⟨#[]⟩] 105).alloc (.cells #[.pointer (some ⟨w.heap.size + 2, 0, none⟩)] 95)
  have kV := Blk.new (((w.alloc (.cells #[.int .i64 h, .int .i64 r, .int .i64 s, .bool has, .int .u64 bl, .int .i64 f] 34)).alloc (.cells #[.func (.func 58) #[] #[]] 93)).alloc (.cells #[.bool false, .slice none 0 0, .string ⟨#[]⟩] 105)) #[.pointer (some ⟨w.heap.size + 2, 0, none⟩)] 95
  have b4 : Below w.heap.size w ((((w.alloc (.cells #[.int .i64 h, .int .i64 r, .int .i64 s, .bool has, .int .u64 bl, .int .i64 f] 34)).alloc (.cells #[.func (.func 58) #[] #[]] 93)).alloc (.cells #[.bool false, .slice none 0 0, .string ⟨#[]⟩] 105)).alloc (.cells #[.pointer (some ⟨w.heap.size + 2, 0, none⟩)] 95)) :=
    ((((Below.refl _ _).alloc (Nat.le_refl _) _).alloc (by simp) _).alloc (by simp; omega) _).alloc (by simp; omega) _
  have s4 : ((((w.alloc (.cells #[.int .i64 h, .int .i64 r, .int .i64 s, .bool has, .int .u64 bl, .int .i64 f] 34)).alloc (.cells #[.func (.func 58) #[] #[]] 93)).alloc (.cells #[.bool false, .slice none 0 0, .string ⟨#[]⟩] 105)).alloc (.cells #[.pointer (some ⟨w.heap.size + 2, 0, none⟩)] 95)).heap.size = w.heap.size + 4 := by simp
  simp only [World.size_alloc, Nat.add_assoc, Nat.reduceAdd] at kW kS kV
  go_enter Try.func57, Try.ntmps57
  go_wp2_with fail
  generalize hW4 : (((w.alloc (.cells #[.int .i64 h, .int .i64 r, .int .i64 s, .bool has, .int .u64 bl, .int .i64 f] 34)).alloc (.cells #[.func (.func 58) #[] #[]] 93)).alloc (.cells #[.bool false, .slice none 0 0, .string ⟨#[]⟩] 105)).alloc (.cells #[.pointer (some ⟨w.heap.size + 2, 0, none⟩)] 95) = w4 at *
  have be5 : Below w4.heap.size w4 (w4.alloc (.cells #[.int .i64 0] 37)) := (Below.refl _ _).alloc (Nat.le_refl _) _
  have kE := Blk.new w4 #[.int .i64 0] 37
  have kX5 := kX.below be5 kX.lt
  have kW5 := kW.below be5 kW.lt
  have kV5 := kV.below be5 kV.lt
  have hP5 : PassAt (w4.alloc (.cells #[.int .i64 0] 37)) w.heap.size (w.heap.size + 2) [] := ⟨.slice none 0 0, kS.below be5 kS.lt, World.ownsRow_nil _ _ _ _, by omega⟩
  have b5 : Below w.heap.size w (w4.alloc (.cells #[.int .i64 0] 37)) := b4.alloc b4.size _
  have hdo : Calls Try.prog 71 #[.pointer (some ⟨w.heap.size + 1, 0, none⟩), .pointer (some ⟨w.heap.size + 3, 0, none⟩), .pointer (some ⟨w.heap.size, 0, none⟩)] (w4.alloc (.cells #[.int .i64 0] 37)) fun e w1 =>
      ((e = .returned (.tuple #[]) ∧ (Kp w.heap.size (w.heap.size + 2) (w4.alloc (.cells #[.int .i64 0] 37)) w1 ∧ ∃ out, o = some out ∧ PassAt w1 w.heap.size (w.heap.size + 2) out)) ∨ (e = .panicked [{ v := .iface 118 (.int .i64 3), recovered := false }] ∧ (Kp w.heap.size (w.heap.size + 2) (w4.alloc (.cells #[.int .i64 0] 37)) w1 ∧ o = none))) ∧
      w1.cell? ⟨w4.heap.size, 0, none⟩ = some (.int .i64 0) ∧ w1.frozen? ⟨w4.heap.size, 0, none⟩ = false := by
    have d0 := kW5.cell 0
    have d1 := kV5.cell 0
    simp only [List.getElem?_toArray, List.getElem?_cons_zero] at d0 d1
    clear hM hmf
    go_enter Try.func71, Try.ntmps71
    go_wp2_with fail
    refine (hW (w.heap.size + 2) _ hP5 kX5 (by omega) b5).mono ?_
    rintro e w1 ⟨⟨out, ho, rfl, h1⟩ | ⟨ho, rfl⟩, k1⟩
    · have kE1 := kE.kp k1 (by omega)
      have q0 := kE1.cell 0
      simp only [List.getElem?_toArray, List.getElem?_cons_zero] at q0
      go_wp2
      go_end0
      exact ⟨.inl ⟨rfl, k1, out, ho, h1⟩, q0, kE1.frozen 0⟩
    · have kE1 := kE.kp k1 (by omega)
      have q0 := kE1.cell 0
      simp only [List.getElem?_toArray, List.getElem?_cons_zero] at q0
      go_wp2
      exact ⟨rfl, .inr ⟨rfl, k1, ho⟩, q0, kE1.frozen 0⟩
  refine (attempt_71 _ _ (fun ok w1 => Kp w.heap.size (w.heap.size + 2) (w4.alloc (.cells #[.int .i64 0] 37)) w1 ∧ (ok = true → ∃ out, o = some out ∧ PassAt w1 w.heap.size (w.heap.size + 2) out) ∧ (ok = false → o = none)) (hdo.mono ?_)).mono ?_
  · rintro e w1 ⟨⟨rfl, hK, out, ho, h1⟩ | ⟨rfl, hK, ho⟩, q0, q1⟩
    · exact ⟨.inl ⟨rfl, hK, fun _ => ⟨out, ho, h1⟩, fun h => by cases h⟩, q0, q1⟩
    · exact ⟨.inr ⟨rfl, hK, (fun h => by cases h), fun _ => ho⟩, q0, q1⟩
  clear hdo hW
  rintro e w' ⟨ok, w1, ⟨hK, hT, hF⟩, rfl, rfl⟩
  have kE1 := kE.kp hK (by omega)
  have kX1 := (kX5.kp hK (by omega)).setOther ⟨w4.heap.size, 0, none⟩ (by show _ ≠ w4.heap.size; omega) (.int .i64 (errB ok))
  have kV1 := (kV5.kp hK (by omega)).setOther ⟨w4.heap.size, 0, none⟩ (by show _ ≠ w4.heap.size; omega) (.int .i64 (errB ok))
  have b6 : Below w.heap.size w (w1.setCell ⟨w4.heap.size, 0, none⟩ (.int .i64 (errB ok))) := (b5.trans hK.below).setCell (p := ⟨w4.heap.size, 0, none⟩) b4.size _
  cases ok with
  | true =>
    obtain ⟨out, ho, h1⟩ := hT rfl
    subst ho
    have hP6 := h1.setOther kE1 (by decide) (show w.heap.size + 2 ≠ w4.heap.size by omega) 0 (.int .i64 (errB true))
    simp only [errB, if_true] at *
    generalize w1.setCell ⟨w4.heap.size, 0, none⟩ (.int .i64 0) = w6 at *
    have x0 := kX1.cell 0
    have x1 := kX1.cell 1
    have x2 := kX1.cell 2
    have x3 := kX1.cell 3
    have x4 := kX1.cell 4
    have x5 := kX1.cell 5
    simp only [List.getElem?_toArray, List.getElem?_cons_succ, List.getElem?_cons_zero] at x0 x1 x2 x3 x4 x5
    clear hT hF
    go_wp2_with fail
    refine (hM _ b6).mono ?_
    rintro e w7 ⟨rfl, b7⟩
    obtain ⟨v7, kS7, hown7, _⟩ := hP6.below b7
    obtain ⟨a7, c7, rfl⟩ := owns_form hown7
    have hcv := conv_own hown7
    have kV7 := kV1.below b7 kV1.lt
    have p0 := kV7.cell 0
    have p1 := kS7.cell 1
    simp only [List.getElem?_toArray, List.getElem?_cons_succ, List.getElem?_cons_zero] at p0 p1
    have b8 := b6.trans (b7.mono b6.size)
    cases m
    · go_wp2
      go_ret2
      exact ⟨rfl, b8⟩
    · go_wp2
      go_ret2
      exact ⟨rfl, b8⟩
  | false =>
    have ho := hF rfl
    subst ho
    simp only [errB, Bool.false_eq_true, if_false] at *
    generalize w1.setCell ⟨w4.heap.size, 0, none⟩ (.int .i64 3) = w6 at *
    clear hT hF s4
    go_wp2
    go_ret2
    exact ⟨rfl, b6⟩













end Go.Proofs.Ytimcddknoanghaa.W
