/- Get of a record of a vote. -/
import Derived.Test.YtaifkidpdmhciaaGreatM05
import Derived.Test.YtaifkidpdmhciaaGreatM06
import Derived.Test.YtaifkidpdmhciaaGreatM09
namespace Go.Proofs.YtaifkidpdmhciaaGreat
open Go.RowKit
set_option linter.unusedVariables false
set_option linter.unusedSimpArgs false

set_option maxHeartbeats 800000 in
theorem attempt_96 (caps : Array Value) (w : World) (R : Bool → World → Prop)
    (hdo : Calls Tryz.prog 96 caps (w.alloc (.cells #[.int .i64 0] 35)) fun e w1 => ((e = .returned (.tuple #[]) ∧ R true w1) ∨ (e = .panicked [{ v := .iface 133 (.int .i64 3), recovered := false }] ∧ R false w1)) ∧ w1.cell? ⟨w.heap.size, 0, none⟩ = some (.int .i64 0) ∧ w1.frozen? ⟨w.heap.size, 0, none⟩ = false) :
    Calls Tryz.prog 55 #[.func (.func 96) #[] caps] w fun e w' => ∃ ok w1, R ok w1 ∧ e = .returned (.int .i64 (errB ok)) ∧ w' = w1.setCell ⟨w.heap.size, 0, none⟩ (.int .i64 (errB ok)) := by
  have hmf : ∀ (fn : Fn) (first cap : Array Value) (w : World), (Instr.makeFunc fn first cap).run Tryz.prog w = .ok (.func fn first cap) w := fun _ _ _ _ => rfl
  go_enter_defers Tryz.func55, Tryz.ntmps55
  go_wp2_with fail
  refine hdo.mono ?_
  rintro e w1 ⟨⟨rfl, hR⟩ | ⟨rfl, hR⟩, hc, hz⟩
  · go_wp2
    refine leaves_cons (f := 83) (args := #[.pointer (some ⟨w.heap.size, 0, none⟩)]) (by simp) (by simp [go_sem]) ?_
    refine (catch_idle ⟨w.heap.size, 0, none⟩ _).mono ?_
    rintro e u' w'' ⟨rfl, rfl, rfl⟩
    have hs : (w1.setCell ⟨w.heap.size, 0, none⟩ (.int .i64 0)).cell? ⟨w.heap.size, 0, none⟩ = some (.int .i64 0) := World.cell?_setCell_same _ _ _ hc
    simp only [Leaves, settle]
    exact ⟨.int .i64 0, by simp [results, Tryz.results55, go_sem, hs], true, w1, hR, rfl, rfl⟩
  · go_wp2
    refine leaves_cons (f := 83) (args := #[.pointer (some ⟨w.heap.size, 0, none⟩)]) (by simp) (by simp [go_sem]) ?_
    refine (catch_panicking ⟨w.heap.size, 0, none⟩ 0 3 [] _ hc hz).mono ?_
    rintro e u' w'' ⟨rfl, rfl, rfl⟩
    have hs : (w1.setCell ⟨w.heap.size, 0, none⟩ (.int .i64 3)).cell? ⟨w.heap.size, 0, none⟩ = some (.int .i64 3) := World.cell?_setCell_same _ _ _ hc
    simp only [settle, List.dropWhile_nil]
    simp only [Leaves]
    exact ⟨.int .i64 3, by simp [results, Tryz.results55, go_sem, hs], false, w1, hR, rfl, rfl⟩

theorem voteC_RC (h rd sg : Int) (has : Bool) (bl f : Int) : voteC (RZ.setIfInBounds 0 (.int .i64 1)) 1 h rd sg has bl f = RC h rd sg has bl f := rfl
theorem RZ_size : RZ.size = 38 := rfl
theorem RC_one (h rd sg : Int) (has : Bool) (bl f : Int) : (RC h rd sg has bl f).all (·.oneCell') = true := by simp [RC, Value.oneCell']
theorem RC_size' (h rd sg : Int) (has : Bool) (bl f : Int) : (RC h rd sg has bl f).size = 38 := rfl
theorem Blk.there {w : World} {b : Nat} {cs : Array Value} {t : TypeId} (k : Blk w b cs t) (n : Nat) (hn : n ≤ cs.size) : w.there b 0 n := fun j hj => by
  rw [Nat.zero_add]
  exact ⟨by rw [k.cell]; simp; omega, k.frozen j⟩
theorem but_setCells (b : Nat) : ∀ (vs : List Value) (o : Nat) (w : World), But (fun k => k = b) w (w.setCells b o vs)
  | [], _, w => But.refl _ w
  | v :: r, o, w => (But.set (S := fun k => k = b) w (p := ⟨b, o, none⟩) rfl v).trans (but_setCells b r (o + 1) _)

set_option maxRecDepth 8000 in
set_option maxHeartbeats 3200000 in
theorem getRec_v (h rd sg : Int) (has : Bool) (bl f : Int) (B : List UInt8) (hB : B = recBy h rd sg has bl f) (w : World) (hh : 0 ≤ h ∧ h ≤ 1099511627775) (hr : 0 ≤ rd ∧ rd ≤ 1099511627775) (hsg : 0 ≤ sg ∧ sg ≤ 1099511627775) (hbl : 0 ≤ bl ∧ bl ≤ 18446744073709551615) (hf : 0 ≤ f ∧ f ≤ 1099511627775) (hm : mayVoteP sg has bl f = true) :
    Calls Tryz.prog 72 #[.string ⟨B.toArray⟩, .func (.func 35) #[] #[], .func (.func 36) #[] #[]] w fun e w' => e = .returned (.tuple #[.agg (RC h rd sg has bl f), .int .i64 0]) ∧ Below w.heap.size w w' := by
  have hmf : ∀ (fn : Fn) (first cap : Array Value) (w : World), (Instr.makeFunc fn first cap).run Tryz.prog w = .ok (.func fn first cap) w := fun _ _ _ _ => rfl
  have HB := show Hid (_ = _) from hB
  clear hB
  have kW := ((((((Blk.new w #[.func (.func 35) #[] #[]] 89).alloc (.cells #[.int .i64 0, .int .i64 0, .int .i64 0, .int .i64 0, .bool false, .int .u64 0, .int .i64 0, .int .i64 0, .int .i64 0, .int .i64 0, .int .i64 0, .int .u64 0, .int .u64 0, .int .u64 0, .int .u64 0, .int .u64 0, .int .u64 0, .int .i64 0, .slice none 0 0, .slice none 0 0, .slice none 0 0, .int .i64 0, .int .i64 0, .int .i64 0, .bool false, .int .u64 0, .slice none 0 0, .int .i64 0, .int .i64 0, .int .u64 0, .int .u64 0, .int .u64 0, .int .u64 0, .int .u64 0, .int .u64 0, .int .i64 0, .slice none 0 0, .slice none 0 0] 57)).alloc (.cells #[.int .i64 0, .int .i64 0, .int .i64 0, .int .i64 0, .bool false, .int .u64 0, .int .i64 0, .int .i64 0, .int .i64 0, .int .i64 0, .int .i64 0, .int .u64 0, .int .u64 0, .int .u64 0, .int .u64 0, .int .u64 0, .int .u64 0, .int .i64 0, .slice none 0 0, .slice none 0 0, .slice none 0 0, .int .i64 0, .int .i64 0, .int .i64 0, .bool false, .int .u64 0, .slice none 0 0, .int .i64 0, .int .i64 0, .int .u64 0, .int .u64 0, .int .u64 0, .int .u64 0, .int .u64 0, .int .u64 0, .int .i64 0, .slice none 0 0, .slice none 0 0] 57)).alloc (.cells #[.int .i64 0, .int .i64 0, .int .i64 0, .int .i64 0, .bool false, .int .u64 0, .int .i64 0, .int .i64 0, .int .i64 0, .int .i64 0, .int .i64 0, .int .u64 0, .int .u64 0, .int .u64 0, .int .u64 0, .int .u64 0, .int .u64 0, .int .i64 0, .slice none 0 0, .slice none 0 0, .slice none 0 0, .int .i64 0, .int .i64 0, .int .i64 0, .bool false, .int .u64 0, .slice none 0 0, .int .i64 0, .int .i64 0, .int .u64 0, .int .u64 0, .int .u64 0, .int .u64 0, .int .u64 0, .int .u64 0, .int .i64 0, .slice none 0 0, .slice none 0 0] 57)).alloc (.cells #[.bool true, .slice none 0 0, .string ⟨B.toArray⟩] 109)).alloc (.cells #[.pointer (some ⟨w.heap.size + 1 + 1 + 1 + 1, 0, none⟩)] 91))
  have kR := (((((Blk.new (w.alloc (.cells #[.func (.func 35) #[] #[]] 89)) #[.int .i64 0, .int .i64 0, .int .i64 0, .int .i64 0, .bool false, .int .u64 0, .int .i64 0, .int .i64 0, .int .i64 0, .int .i64 0, .int .i64 0, .int .u64 0, .int .u64 0, .int .u64 0, .int .u64 0, .int .u64 0, .int .u64 0, .int .i64 0, .slice none 0 0, .slice none 0 0, .slice none 0 0, .int .i64 0, .int .i64 0, .int .i64 0, .bool false, .int .u64 0, .slice none 0 0, .int .i64 0, .int .i64 0, .int .u64 0, .int .u64 0, .int .u64 0, .int .u64 0, .int .u64 0, .int .u64 0, .int .i64 0, .slice none 0 0, .slice none 0 0] 57).alloc (.cells #[.int .i64 0, .int .i64 0, .int .i64 0, .int .i64 0, .bool false, .int .u64 0, .int .i64 0, .int .i64 0, .int .i64 0, .int .i64 0, .int .i64 0, .int .u64 0, .int .u64 0, .int .u64 0, .int .u64 0, .int .u64 0, .int .u64 0, .int .i64 0, .slice none 0 0, .slice none 0 0, .slice none 0 0, .int .i64 0, .int .i64 0, .int .i64 0, .bool false, .int .u64 0, .slice none 0 0, .int .i64 0, .int .i64 0, .int .u64 0, .int .u64 0, .int .u64 0, .int .u64 0, .int .u64 0, .int .u64 0, .int .i64 0, .slice none 0 0, .slice none 0 0] 57)).alloc (.cells #[.int .i64 0, .int .i64 0, .int .i64 0, .int .i64 0, .bool false, .int .u64 0, .int .i64 0, .int .i64 0, .int .i64 0, .int .i64 0, .int .i64 0, .int .u64 0, .int .u64 0, .int .u64 0, .int .u64 0, .int .u64 0, .int .u64 0, .int .i64 0, .slice none 0 0, .slice none 0 0, .slice none 0 0, .int .i64 0, .int .i64 0, .int .i64 0, .bool false, .int .u64 0, .slice none 0 0, .int .i64 0, .int .i64 0, .int .u64 0, .int .u64 0, .int .u64 0, .int .u64 0, .int .u64 0, .int .u64 0, .int .i64 0, .slice none 0 0, .slice none 0 0] 57)).alloc (.cells #[.bool true, .slice none 0 0, .string ⟨B.toArray⟩] 109)).alloc (.cells #[.pointer (some ⟨w.heap.size + 1 + 1 + 1 + 1, 0, none⟩)] 91))
  have kX := ((((Blk.new ((w.alloc (.cells #[.func (.func 35) #[] #[]] 89)).alloc (.cells #[.int .i64 0, .int .i64 0, .int .i64 0, .int .i64 0, .bool false, .int .u64 0, .int .i64 0, .int .i64 0, .int .i64 0, .int .i64 0, .int .i64 0, .int .u64 0, .int .u64 0, .int .u64 0, .int .u64 0, .int .u64 0, .int .u64 0, .int .i64 0, .slice none 0 0, .slice none 0 0, .slice none 0 0, .int .i64 0, .int .i64 0, .int .i64 0, .bool false, .int .u64 0, .slice none 0 0, .int .i64 0, .int .i64 0, .int .u64 0, .int .u64 0, .int .u64 0, .int .u64 0, .int .u64 0, .int .u64 0, .int .i64 0, .slice none 0 0, .slice none 0 0] 57)) #[.int .i64 0, .int .i64 0, .int .i64 0, .int .i64 0, .bool false, .int .u64 0, .int .i64 0, .int .i64 0, .int .i64 0, .int .i64 0, .int .i64 0, .int .u64 0, .int .u64 0, .int .u64 0, .int .u64 0, .int .u64 0, .int .u64 0, .int .i64 0, .slice none 0 0, .slice none 0 0, .slice none 0 0, .int .i64 0, .int .i64 0, .int .i64 0, .bool false, .int .u64 0, .slice none 0 0, .int .i64 0, .int .i64 0, .int .u64 0, .int .u64 0, .int .u64 0, .int .u64 0, .int .u64 0, .int .u64 0, .int .i64 0, .slice none 0 0, .slice none 0 0] 57).alloc (.cells #[.int .i64 0, .int .i64 0, .int .i64 0, .int .i64 0, .bool false, .int .u64 0, .int .i64 0, .int .i64 0, .int .i64 0, .int .i64 0, .int .i64 0, .int .u64 0, .int .u64 0, .int .u64 0, .int .u64 0, .int .u64 0, .int .u64 0, .int .i64 0, .slice none 0 0, .slice none 0 0, .slice none 0 0, .int .i64 0, .int .i64 0, .int .i64 0, .bool false, .int .u64 0, .slice none 0 0, .int .i64 0, .int .i64 0, .int .u64 0, .int .u64 0, .int .u64 0, .int .u64 0, .int .u64 0, .int .u64 0, .int .i64 0, .slice none 0 0, .slice none 0 0] 57)).alloc (.cells #[.bool true, .slice none 0 0, .string ⟨B.toArray⟩] 109)).alloc (.cells #[.pointer (some ⟨w.heap.size + 1 + 1 + 1 + 1, 0, none⟩)] 91))
  have kS := ((Blk.new ((((w.alloc (.cells #[.func (.func 35) #[] #[]] 89)).alloc (.cells #[.int .i64 0, .int .i64 0, .int .i64 0, .int .i64 0, .bool false, .int .u64 0, .int .i64 0, .int .i64 0, .int .i64 0, .int .i64 0, .int .i64 0, .int .u64 0, .int .u64 0, .int .u64 0, .int .u64 0, .int .u64 0, .int .u64 0, .int .i64 0, .slice none 0 0, .slice none 0 0, .slice none 0 0, .int .i64 0, .int .i64 0, .int .i64 0, .bool false, .int .u64 0, .slice none 0 0, .int .i64 0, .int .i64 0, .int .u64 0, .int .u64 0, .int .u64 0, .int .u64 0, .int .u64 0, .int .u64 0, .int .i64 0, .slice none 0 0, .slice none 0 0] 57)).alloc (.cells #[.int .i64 0, .int .i64 0, .int .i64 0, .int .i64 0, .bool false, .int .u64 0, .int .i64 0, .int .i64 0, .int .i64 0, .int .i64 0, .int .i64 0, .int .u64 0, .int .u64 0, .int .u64 0, .int .u64 0, .int .u64 0, .int .u64 0, .int .i64 0, .slice none 0 0, .slice none 0 0, .slice none 0 0, .int .i64 0, .int .i64 0, .int .i64 0, .bool false, .int .u64 0, .slice none 0 0, .int .i64 0, .int .i64 0, .int .u64 0, .int .u64 0, .int .u64 0, .int .u64 0, .int .u64 0, .int .u64 0, .int .i64 0, .slice none 0 0, .slice none 0 0] 57)).alloc (.cells #[.int .i64 0, .int .i64 0, .int .i64 0, .int .i64 0, .bool false, .int .u64 0, .int .i64 0, .int .i64 0, .int .i64 0, .int .i64 0, .int .i64 0, .int .u64 0, .int .u64 0, .int .u64 0, .int .u64 0, .int .u64 0, .int .u64 0, .int .i64 0, .slice none 0 0, .slice none 0 0, .slice none 0 0, .int .i64 0, .int .i64 0, .int .i64 0, .bool false, .int .u64 0, .slice none 0 0, .int .i64 0, .int .i64 0, .int .u64 0, .int .u64 0, .int .u64 0, .int .u64 0, .int .u64 0, .int .u64 0, .int .i64 0, .slice none 0 0, .slice none 0 0] 57)) #[.bool true, .slice none 0 0, .string ⟨B.toArray⟩] 109).alloc (.cells #[.pointer (some ⟨w.heap.size + 1 + 1 + 1 + 1, 0, none⟩)] 91))
  have kV := (Blk.new (((((w.alloc (.cells #[.func (.func 35) #[] #[]] 89)).alloc (.cells #[.int .i64 0, .int .i64 0, .int .i64 0, .int .i64 0, .bool false, .int .u64 0, .int .i64 0, .int .i64 0, .int .i64 0, .int .i64 0, .int .i64 0, .int .u64 0, .int .u64 0, .int .u64 0, .int .u64 0, .int .u64 0, .int .u64 0, .int .i64 0, .slice none 0 0, .slice none 0 0, .slice none 0 0, .int .i64 0, .int .i64 0, .int .i64 0, .bool false, .int .u64 0, .slice none 0 0, .int .i64 0, .int .i64 0, .int .u64 0, .int .u64 0, .int .u64 0, .int .u64 0, .int .u64 0, .int .u64 0, .int .i64 0, .slice none 0 0, .slice none 0 0] 57)).alloc (.cells #[.int .i64 0, .int .i64 0, .int .i64 0, .int .i64 0, .bool false, .int .u64 0, .int .i64 0, .int .i64 0, .int .i64 0, .int .i64 0, .int .i64 0, .int .u64 0, .int .u64 0, .int .u64 0, .int .u64 0, .int .u64 0, .int .u64 0, .int .i64 0, .slice none 0 0, .slice none 0 0, .slice none 0 0, .int .i64 0, .int .i64 0, .int .i64 0, .bool false, .int .u64 0, .slice none 0 0, .int .i64 0, .int .i64 0, .int .u64 0, .int .u64 0, .int .u64 0, .int .u64 0, .int .u64 0, .int .u64 0, .int .i64 0, .slice none 0 0, .slice none 0 0] 57)).alloc (.cells #[.int .i64 0, .int .i64 0, .int .i64 0, .int .i64 0, .bool false, .int .u64 0, .int .i64 0, .int .i64 0, .int .i64 0, .int .i64 0, .int .i64 0, .int .u64 0, .int .u64 0, .int .u64 0, .int .u64 0, .int .u64 0, .int .u64 0, .int .i64 0, .slice none 0 0, .slice none 0 0, .slice none 0 0, .int .i64 0, .int .i64 0, .int .i64 0, .bool false, .int .u64 0, .slice none 0 0, .int .i64 0, .int .i64 0, .int .u64 0, .int .u64 0, .int .u64 0, .int .u64 0, .int .u64 0, .int .u64 0, .int .i64 0, .slice none 0 0, .slice none 0 0] 57)).alloc (.cells #[.bool true, .slice none 0 0, .string ⟨B.toArray⟩] 109)) #[.pointer (some ⟨w.heap.size + 1 + 1 + 1 + 1, 0, none⟩)] 91)
  have b6 : Below w.heap.size w ((((((w.alloc (.cells #[.func (.func 35) #[] #[]] 89)).alloc (.cells #[.int .i64 0, .int .i64 0, .int .i64 0, .int .i64 0, .bool false, .int .u64 0, .int .i64 0, .int .i64 0, .int .i64 0, .int .i64 0, .int .i64 0, .int .u64 0, .int .u64 0, .int .u64 0, .int .u64 0, .int .u64 0, .int .u64 0, .int .i64 0, .slice none 0 0, .slice none 0 0, .slice none 0 0, .int .i64 0, .int .i64 0, .int .i64 0, .bool false, .int .u64 0, .slice none 0 0, .int .i64 0, .int .i64 0, .int .u64 0, .int .u64 0, .int .u64 0, .int .u64 0, .int .u64 0, .int .u64 0, .int .i64 0, .slice none 0 0, .slice none 0 0] 57)).alloc (.cells #[.int .i64 0, .int .i64 0, .int .i64 0, .int .i64 0, .bool false, .int .u64 0, .int .i64 0, .int .i64 0, .int .i64 0, .int .i64 0, .int .i64 0, .int .u64 0, .int .u64 0, .int .u64 0, .int .u64 0, .int .u64 0, .int .u64 0, .int .i64 0, .slice none 0 0, .slice none 0 0, .slice none 0 0, .int .i64 0, .int .i64 0, .int .i64 0, .bool false, .int .u64 0, .slice none 0 0, .int .i64 0, .int .i64 0, .int .u64 0, .int .u64 0, .int .u64 0, .int .u64 0, .int .u64 0, .int .u64 0, .int .i64 0, .slice none 0 0, .slice none 0 0] 57)).alloc (.cells #[.int .i64 0, .int .i64 0, .int .i64 0, .int .i64 0, .bool false, .int .u64 0, .int .i64 0, .int .i64 0, .int .i64 0, .int .i64 0, .int .i64 0, .int .u64 0, .int .u64 0, .int .u64 0, .int .u64 0, .int .u64 0, .int .u64 0, .int .i64 0, .slice none 0 0, .slice none 0 0, .slice none 0 0, .int .i64 0, .int .i64 0, .int .i64 0, .bool false, .int .u64 0, .slice none 0 0, .int .i64 0, .int .i64 0, .int .u64 0, .int .u64 0, .int .u64 0, .int .u64 0, .int .u64 0, .int .u64 0, .int .i64 0, .slice none 0 0, .slice none 0 0] 57)).alloc (.cells #[.bool true, .slice none 0 0, .string ⟨B.toArray⟩] 109)).alloc (.cells #[.pointer (some ⟨w.heap.size + 1 + 1 + 1 + 1, 0, none⟩)] 91)) := ((((((Below.refl _ _).alloc (Nat.le_refl _) _).alloc (by simp) _).alloc (by simp; omega) _).alloc (by simp; omega) _).alloc (by simp; omega) _).alloc (by simp; omega) _
  have s6 : ((((((w.alloc (.cells #[.func (.func 35) #[] #[]] 89)).alloc (.cells #[.int .i64 0, .int .i64 0, .int .i64 0, .int .i64 0, .bool false, .int .u64 0, .int .i64 0, .int .i64 0, .int .i64 0, .int .i64 0, .int .i64 0, .int .u64 0, .int .u64 0, .int .u64 0, .int .u64 0, .int .u64 0, .int .u64 0, .int .i64 0, .slice none 0 0, .slice none 0 0, .slice none 0 0, .int .i64 0, .int .i64 0, .int .i64 0, .bool false, .int .u64 0, .slice none 0 0, .int .i64 0, .int .i64 0, .int .u64 0, .int .u64 0, .int .u64 0, .int .u64 0, .int .u64 0, .int .u64 0, .int .i64 0, .slice none 0 0, .slice none 0 0] 57)).alloc (.cells #[.int .i64 0, .int .i64 0, .int .i64 0, .int .i64 0, .bool false, .int .u64 0, .int .i64 0, .int .i64 0, .int .i64 0, .int .i64 0, .int .i64 0, .int .u64 0, .int .u64 0, .int .u64 0, .int .u64 0, .int .u64 0, .int .u64 0, .int .i64 0, .slice none 0 0, .slice none 0 0, .slice none 0 0, .int .i64 0, .int .i64 0, .int .i64 0, .bool false, .int .u64 0, .slice none 0 0, .int .i64 0, .int .i64 0, .int .u64 0, .int .u64 0, .int .u64 0, .int .u64 0, .int .u64 0, .int .u64 0, .int .i64 0, .slice none 0 0, .slice none 0 0] 57)).alloc (.cells #[.int .i64 0, .int .i64 0, .int .i64 0, .int .i64 0, .bool false, .int .u64 0, .int .i64 0, .int .i64 0, .int .i64 0, .int .i64 0, .int .i64 0, .int .u64 0, .int .u64 0, .int .u64 0, .int .u64 0, .int .u64 0, .int .u64 0, .int .i64 0, .slice none 0 0, .slice none 0 0, .slice none 0 0, .int .i64 0, .int .i64 0, .int .i64 0, .bool false, .int .u64 0, .slice none 0 0, .int .i64 0, .int .i64 0, .int .u64 0, .int .u64 0, .int .u64 0, .int .u64 0, .int .u64 0, .int .u64 0, .int .i64 0, .slice none 0 0, .slice none 0 0] 57)).alloc (.cells #[.bool true, .slice none 0 0, .string ⟨B.toArray⟩] 109)).alloc (.cells #[.pointer (some ⟨w.heap.size + 1 + 1 + 1 + 1, 0, none⟩)] 91)).heap.size = w.heap.size + 6 := by simp
  simp only [World.size_alloc] at kW kR kX kS kV
  go_enter Tryz.func72, Tryz.ntmps72
  go_upto_region 3 with fail
  generalize ((((((w.alloc (.cells #[.func (.func 35) #[] #[]] 89)).alloc (.cells #[.int .i64 0, .int .i64 0, .int .i64 0, .int .i64 0, .bool false, .int .u64 0, .int .i64 0, .int .i64 0, .int .i64 0, .int .i64 0, .int .i64 0, .int .u64 0, .int .u64 0, .int .u64 0, .int .u64 0, .int .u64 0, .int .u64 0, .int .i64 0, .slice none 0 0, .slice none 0 0, .slice none 0 0, .int .i64 0, .int .i64 0, .int .i64 0, .bool false, .int .u64 0, .slice none 0 0, .int .i64 0, .int .i64 0, .int .u64 0, .int .u64 0, .int .u64 0, .int .u64 0, .int .u64 0, .int .u64 0, .int .i64 0, .slice none 0 0, .slice none 0 0] 57)).alloc (.cells #[.int .i64 0, .int .i64 0, .int .i64 0, .int .i64 0, .bool false, .int .u64 0, .int .i64 0, .int .i64 0, .int .i64 0, .int .i64 0, .int .i64 0, .int .u64 0, .int .u64 0, .int .u64 0, .int .u64 0, .int .u64 0, .int .u64 0, .int .i64 0, .slice none 0 0, .slice none 0 0, .slice none 0 0, .int .i64 0, .int .i64 0, .int .i64 0, .bool false, .int .u64 0, .slice none 0 0, .int .i64 0, .int .i64 0, .int .u64 0, .int .u64 0, .int .u64 0, .int .u64 0, .int .u64 0, .int .u64 0, .int .i64 0, .slice none 0 0, .slice none 0 0] 57)).alloc (.cells #[.int .i64 0, .int .i64 0, .int .i64 0, .int .i64 0, .bool false, .int .u64 0, .int .i64 0, .int .i64 0, .int .i64 0, .int .i64 0, .int .i64 0, .int .u64 0, .int .u64 0, .int .u64 0, .int .u64 0, .int .u64 0, .int .u64 0, .int .i64 0, .slice none 0 0, .slice none 0 0, .slice none 0 0, .int .i64 0, .int .i64 0, .int .i64 0, .bool false, .int .u64 0, .slice none 0 0, .int .i64 0, .int .i64 0, .int .u64 0, .int .u64 0, .int .u64 0, .int .u64 0, .int .u64 0, .int .u64 0, .int .i64 0, .slice none 0 0, .slice none 0 0] 57)).alloc (.cells #[.bool true, .slice none 0 0, .string ⟨B.toArray⟩] 109)).alloc (.cells #[.pointer (some ⟨w.heap.size + 1 + 1 + 1 + 1, 0, none⟩)] 91)) = w6 at *
  have be : Below w6.heap.size w6 (w6.alloc (.cells #[.int .i64 0] 35)) := (Below.refl _ _).alloc (Nat.le_refl _) _
  have kE := Blk.new w6 #[.int .i64 0] 35
  have kW7 := kW.alloc (.cells #[.int .i64 0] 35)
  have kR7 := kR.alloc (.cells #[.int .i64 0] 35)
  have kX7 := kX.alloc (.cells #[.int .i64 0] 35)
  have kS7 := kS.alloc (.cells #[.int .i64 0] 35)
  have kV7 := kV.alloc (.cells #[.int .i64 0] 35)
  have b7 := b6.alloc b6.size (.cells #[.int .i64 0] 35)
  generalize hW7 : w6.alloc (.cells #[.int .i64 0] 35) = w7 at *
  have hdo : Calls Tryz.prog 96 #[.pointer (some ⟨w.heap.size, 0, none⟩), .pointer (some ⟨w.heap.size + 1 + 1 + 1 + 1 + 1, 0, none⟩), .pointer (some ⟨w.heap.size + 1 + 1, 0, none⟩)] w7 fun e w1 => e = .returned (.tuple #[]) ∧ Rd (w.heap.size + 1 + 1 + 1 + 1) (w.heap.size + 1 + 1) (RC h rd sg has bl f) 57 [] w7 w1 := by
    have d0 := (kW7.cell 0).trans rfl
    have d1 := (kV7.cell 0).trans rfl
    have z0 := kW7.lt
    have z1 := kV7.lt
    have kk : RdAt w7 (w.heap.size + 1 + 1 + 1 + 1) (recBy h rd sg has bl f ++ []) := by
      rw [List.append_nil, ← HB.out]; exact kS7
    have KR := record_r (w.heap.size + 1 + 1 + 1 + 1) (w.heap.size + 1 + 1) #[.int .i64 0, .int .i64 0, .int .i64 0, .int .i64 0, .bool false, .int .u64 0, .int .i64 0, .int .i64 0, .int .i64 0, .int .i64 0, .int .i64 0, .int .u64 0, .int .u64 0, .int .u64 0, .int .u64 0, .int .u64 0, .int .u64 0, .int .i64 0, .slice none 0 0, .slice none 0 0, .slice none 0 0, .int .i64 0, .int .i64 0, .int .i64 0, .bool false, .int .u64 0, .slice none 0 0, .int .i64 0, .int .i64 0, .int .u64 0, .int .u64 0, .int .u64 0, .int .u64 0, .int .u64 0, .int .u64 0, .int .i64 0, .slice none 0 0, .slice none 0 0] 57 h rd sg has bl f [] w7 hh hr hsg hbl hf kk (by simp) kX7 (by simp) (by omega)
    go_enter Tryz.func96, Tryz.ntmps96
    go_wp2_with fail
    refine KR.mono ?_
    rintro e w8 ⟨rfl, R⟩
    have R' : Rd (w.heap.size + 1 + 1 + 1 + 1) (w.heap.size + 1 + 1) (RC h rd sg has bl f) 57 [] w7 w8 := R
    have kV8 := R.but.blk kV7 (by omega)
    have d8 := (kV8.cell 0).trans rfl
    have z8 := kV8.lt
    clear R KR kk d0 d1 z0 z1
    go_wp2_with fail
    refine (end_r _ w8 R'.rd).mono ?_
    rintro e w9 ⟨rfl, rfl⟩
    go_wp2
    go_end0
    exact ⟨rfl, R'⟩
  go_wp2_with fail
  refine (attempt_96 _ _ (fun ok w1 => ok = true ∧ Rd (w.heap.size + 1 + 1 + 1 + 1) (w.heap.size + 1 + 1) (RC h rd sg has bl f) 57 [] w7 w1) (by
    rw [hW7]
    refine hdo.mono ?_
    rintro e w1 ⟨rfl, R⟩
    have kE1 := R.but.blk kE (by omega)
    exact ⟨.inl ⟨rfl, rfl, R⟩, (kE1.cell 0).trans rfl, kE1.frozen 0⟩)).mono ?_
  rintro e w' ⟨ok, w1, ⟨rfl, R⟩, rfl, rfl⟩
  clear hdo hmf
  simp only [errB, if_true]
  have kX1 := R.x.setOther ⟨w6.heap.size, 0, none⟩ (by show _ ≠ w6.heap.size; omega) (.int .i64 0)
  have kR1 := (R.but.blk kR7 (by omega)).setOther ⟨w6.heap.size, 0, none⟩ (by show _ ≠ w6.heap.size; omega) (.int .i64 0)
  have b8 : Below w.heap.size w (w1.setCell ⟨w6.heap.size, 0, none⟩ (.int .i64 0)) := (b7.trans (R.but.below b7.size (fun k hk => by omega))).setCell (p := ⟨w6.heap.size, 0, none⟩) b6.size _
  generalize w1.setCell ⟨w6.heap.size, 0, none⟩ (.int .i64 0) = w8 at *
  have hM := fun w' => mayRecord_v h rd sg has bl f hm w'
  have hCn := RC_size' h rd sg has bl f
  have hC1 := RC_one h rd sg has bl f
  generalize hCC : RC h rd sg has bl f = C at *
  have HC := show Hid (_ = _) from hCC
  clear hCC
  clear R kW kR kX kS kV kW7 kR7 kX7 kS7 kV7 kE be b6 b7 HB hW7
  go_upto_region 4 with fail
  refine wp_region_list ?_
  refine wpList_plain rfl (fun K hK => ?_)
  go_simp
  refine hK _ _ ?_
  clear hK K
  refine wpList_plain rfl (fun K hK => ?_)
  go_simp
  refine hK _ _ ?_
  clear hK K
  refine wpList_plain rfl (fun K hK => ?_)
  go_simp
  refine hK _ _ ?_
  clear hK K
  refine wpList_on (by kernel_rfl) (fun K hK => ?_)
  go_simp
  refine hK _ _ ?_
  clear hK K
  refine wpList_load_whole (by kernel_rfl) 57 _ rfl (w.heap.size + 1 + 1) rfl C _ _ kX1 Tryz.underlying57 rfl (by rw [hCn]; kernel_rfl) ?_
  refine wpList_on (by kernel_rfl) (fun K hK => ?_)
  go_simp
  refine (hM _).mono ?_
  rintro e w9 ⟨rfl, b9⟩
  refine hK _ _ ?_
  clear hK K
  refine wpList_on (by kernel_rfl) (fun K hK => ?_)
  go_simp
  refine hK _ _ ?_
  clear hK K
  refine wpList_plain rfl (fun K hK => ?_)
  go_simp
  refine hK _ _ ?_
  clear hK K
  refine wpList_nil ?_
  simp only [Exit.then]
  have kX2 := kX1.below b9 kX1.lt
  have kR2 := kR1.below b9 kR1.lt
  have b10 := b8.trans (b9.mono b8.size)
  clear kX1 kR1 b8 b9 hM
  go_upto_region 8 with fail
  refine wp_region_list ?_
  refine wpList_load_whole (by kernel_rfl) 57 _ rfl (w.heap.size + 1 + 1) rfl C _ _ kX2 Tryz.underlying57 rfl (by rw [hCn]; kernel_rfl) ?_
  refine wpList_store_mid rfl 57 _ _ rfl (w.heap.size + 1) 0 C rfl rfl (kR2.there C.size (by rw [hCn]; decide)) (by rw [hCn]; kernel_rfl) hC1 ?_
  refine wpList_plain rfl (fun K hK => ?_)
  go_simp
  refine hK _ _ ?_
  clear hK K
  refine wpList_nil ?_
  simp only [Exit.then]
  have hR := World.rangeAt_setCells_same w9 (w.heap.size + 1) 0 C.toList (kR2.there _ (by rw [Array.length_toList, hCn]; decide))
  have hB := (but_setCells (w.heap.size + 1) C.toList 0 w9).below (B := w.heap.size) b10.size (fun k hk => by omega)
  generalize w9.setCells (w.heap.size + 1) 0 C.toList = w11 at *
  have hld := run_loadVar_mid (P := Tryz.prog) w11 (w.heap.size + 1) 0 57 C.toList _ hR Tryz.underlying57 rfl (by rw [Array.length_toList, hCn]; kernel_rfl)
  rw [Array.toArray_toList] at hld
  go_wp2
  refine bodyPost_ret (v := .tuple #[.agg C, .int .i64 0]) (by simp [results, Tryz.results72, asAddr, hld]) rfl ⟨by rw [HC.out], b10.trans hB⟩

set_option maxRecDepth 8000 in
set_option maxHeartbeats 3200000 in
theorem getRecord_v (h rd sg : Int) (has : Bool) (bl f : Int) (w : World) (hh : 0 ≤ h ∧ h ≤ 1099511627775) (hr : 0 ≤ rd ∧ rd ≤ 1099511627775) (hsg : 0 ≤ sg ∧ sg ≤ 1099511627775) (hbl : 0 ≤ bl ∧ bl ≤ 18446744073709551615) (hf : 0 ≤ f ∧ f ≤ 1099511627775) (hm : mayVoteP sg has bl f = true) :
    Calls Tryz.prog 41 #[.string ⟨(recBy h rd sg has bl f).toArray⟩] w fun e w' => e = .returned (.tuple #[.agg (RC h rd sg has bl f), .int .i64 0]) ∧ Below w.heap.size w w' := by
  have K0 := getRec_v h rd sg has bl f _ rfl (w.alloc (.cells #[.int .i64 0, .int .i64 0, .int .i64 0, .int .i64 0, .bool false, .int .u64 0, .int .i64 0, .int .i64 0, .int .i64 0, .int .i64 0, .int .i64 0, .int .u64 0, .int .u64 0, .int .u64 0, .int .u64 0, .int .u64 0, .int .u64 0, .int .i64 0, .slice none 0 0, .slice none 0 0, .slice none 0 0, .int .i64 0, .int .i64 0, .int .i64 0, .bool false, .int .u64 0, .slice none 0 0, .int .i64 0, .int .i64 0, .int .u64 0, .int .u64 0, .int .u64 0, .int .u64 0, .int .u64 0, .int .u64 0, .int .i64 0, .slice none 0 0, .slice none 0 0] 57)) hh hr hsg hbl hf hm
  have kR := Blk.new w #[.int .i64 0, .int .i64 0, .int .i64 0, .int .i64 0, .bool false, .int .u64 0, .int .i64 0, .int .i64 0, .int .i64 0, .int .i64 0, .int .i64 0, .int .u64 0, .int .u64 0, .int .u64 0, .int .u64 0, .int .u64 0, .int .u64 0, .int .i64 0, .slice none 0 0, .slice none 0 0, .slice none 0 0, .int .i64 0, .int .i64 0, .int .i64 0, .bool false, .int .u64 0, .slice none 0 0, .int .i64 0, .int .i64 0, .int .u64 0, .int .u64 0, .int .u64 0, .int .u64 0, .int .u64 0, .int .u64 0, .int .i64 0, .slice none 0 0, .slice none 0 0] 57
  have bA : Below w.heap.size w (w.alloc (.cells #[.int .i64 0, .int .i64 0, .int .i64 0, .int .i64 0, .bool false, .int .u64 0, .int .i64 0, .int .i64 0, .int .i64 0, .int .i64 0, .int .i64 0, .int .u64 0, .int .u64 0, .int .u64 0, .int .u64 0, .int .u64 0, .int .u64 0, .int .i64 0, .slice none 0 0, .slice none 0 0, .slice none 0 0, .int .i64 0, .int .i64 0, .int .i64 0, .bool false, .int .u64 0, .slice none 0 0, .int .i64 0, .int .i64 0, .int .u64 0, .int .u64 0, .int .u64 0, .int .u64 0, .int .u64 0, .int .u64 0, .int .i64 0, .slice none 0 0, .slice none 0 0] 57)) := (Below.refl _ _).alloc (Nat.le_refl _) _
  have hCn := RC_size' h rd sg has bl f
  have hC1 := RC_one h rd sg has bl f
  generalize RC h rd sg has bl f = C at *
  generalize recBy h rd sg has bl f = B at *
  go_enter Tryz.func41, Tryz.ntmps41
  go_upto_region 1 with fail
  generalize w.alloc (.cells #[.int .i64 0, .int .i64 0, .int .i64 0, .int .i64 0, .bool false, .int .u64 0, .int .i64 0, .int .i64 0, .int .i64 0, .int .i64 0, .int .i64 0, .int .u64 0, .int .u64 0, .int .u64 0, .int .u64 0, .int .u64 0, .int .u64 0, .int .i64 0, .slice none 0 0, .slice none 0 0, .slice none 0 0, .int .i64 0, .int .i64 0, .int .i64 0, .bool false, .int .u64 0, .slice none 0 0, .int .i64 0, .int .i64 0, .int .u64 0, .int .u64 0, .int .u64 0, .int .u64 0, .int .u64 0, .int .u64 0, .int .i64 0, .slice none 0 0, .slice none 0 0] 57) = w1 at *
  refine wp_region_list ?_
  refine wpList_plain rfl (fun K hK => ?_)
  go_simp
  refine hK _ _ ?_
  clear hK K
  refine wpList_on (by kernel_rfl) (fun K hK => ?_)
  go_simp
  refine K0.mono ?_
  rintro e w2 ⟨rfl, b2⟩
  refine hK _ _ ?_
  clear hK K
  refine wpList_plain rfl (fun K hK => ?_)
  go_simp
  refine hK _ _ ?_
  clear hK K
  refine wpList_plain rfl (fun K hK => ?_)
  go_simp
  refine hK _ _ ?_
  clear hK K
  have kR2 := kR.below b2 kR.lt
  have b10 := bA.trans (b2.mono bA.size)
  refine wpList_store_mid rfl 57 _ _ rfl w.heap.size 0 C rfl rfl (kR2.there C.size (by rw [hCn]; decide)) (by rw [hCn]; kernel_rfl) hC1 ?_
  refine wpList_plain rfl (fun K hK => ?_)
  go_simp
  refine hK _ _ ?_
  clear hK K
  refine wpList_nil ?_
  simp only [Exit.then]
  have hR := World.rangeAt_setCells_same w2 w.heap.size 0 C.toList (kR2.there _ (by rw [Array.length_toList, hCn]; decide))
  have hB := (but_setCells w.heap.size C.toList 0 w2).below (B := w.heap.size) b10.size (fun k hk => by omega)
  generalize w2.setCells w.heap.size 0 C.toList = w11 at *
  have hld := run_loadVar_mid (P := Tryz.prog) w11 w.heap.size 0 57 C.toList _ hR Tryz.underlying57 rfl (by rw [Array.length_toList, hCn]; kernel_rfl)
  rw [Array.toArray_toList] at hld
  go_wp2
  refine bodyPost_ret (v := .tuple #[.agg C, .int .i64 0]) (by simp [results, Tryz.results41, asAddr, hld]) rfl ⟨rfl, b10.trans hB⟩
end Go.Proofs.YtaifkidpdmhciaaGreat
