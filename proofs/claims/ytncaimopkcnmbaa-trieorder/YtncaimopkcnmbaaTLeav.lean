/- leaves, of all keys. -/
import Derived.Test.YtncaimopkcnmbaaTRoot
namespace Go.Proofs.Ytncaimopkcnmbaa
open Go.RowKit
set_option linter.unusedVariables false
set_option linter.unusedSimpArgs false

/-- The closure that leaves gives: the top lies in its box. -/
def LeavesFn (q : Option Addr) (w : World) (e : Ending) (w' : World) : Prop := ∃ B, e = .returned (.func (.func 43) #[] #[.pointer (some ⟨B, 0, none⟩)]) ∧ w'.cell? ⟨B, 0, none⟩ = some (.pointer q) ∧ w.heap.size ≤ B ∧ B < w'.heap.size

set_option maxHeartbeats 1600000 in
theorem leaves_none (wd : Int) (w : World) :
    Calls Try.prog 27 #[.agg #[.int .i64 wd, .pointer none], .string (str [])] w fun e w' => LeavesFn none w e w' ∧ Below w.heap.size w w' := by
  have hmf : ∀ (fn : Fn) (first cap : Array Value) (w : World), (Instr.makeFunc fn first cap).run Try.prog w = .ok (.func fn first cap) w := fun _ _ _ _ => rfl
  go_enter Try.func27, Try.ntmps27
  go_wp2_with fail
  refine wp_loop_rounds 1 ?_
  rw [rounds_succ]
  go_wp2
  go_ret
  exact ⟨⟨w.heap.size + 1, rfl, by simp, by omega, by simp⟩, ((Below.refl _ _).alloc (Nat.le_refl _) _).alloc (by simp) _⟩

set_option maxHeartbeats 1600000 in
theorem leaves_some (wd : Int) (b : Nat) (t : Tr) (w : World) (h : NodeAt wd w b t) :
    Calls Try.prog 27 #[.agg #[.int .i64 wd, .pointer (some ⟨b, 0, none⟩)], .string (str [])] w fun e w' => LeavesFn (some ⟨b, 0, none⟩) w e w' ∧ Below w.heap.size w w' := by
  have hmf : ∀ (fn : Fn) (first cap : Array Value) (w : World), (Instr.makeFunc fn first cap).run Try.prog w = .ok (.func fn first cap) w := fun _ _ _ _ => rfl
  have bA : Below w.heap.size w ((w.alloc (.cells #[.int .i64 wd, .pointer (some ⟨b, 0, none⟩)] 28)).alloc (.cells #[.pointer (some ⟨b, 0, none⟩)] 26)) := ((Below.refl _ _).alloc (Nat.le_refl _) _).alloc (by simp) _
  have hA := NodeAt.below bA h
  have hlt := h.lt
  have s0 := str_size []
  have kB := Blk.new (w.alloc (.cells #[.int .i64 wd, .pointer (some ⟨b, 0, none⟩)] 28)) #[.pointer (some ⟨b, 0, none⟩)] 26
  rw [World.size_alloc] at kB
  have q0 := (kB.cell 0).trans rfl
  have zB := kB.lt
  go_enter Try.func27, Try.ntmps27
  go_wp2_with fail
  generalize (w.alloc (.cells #[.int .i64 wd, .pointer (some ⟨b, 0, none⟩)] 28)).alloc (.cells #[.pointer (some ⟨b, 0, none⟩)] 26) = wA at *
  refine wp_loop_rounds 1 ?_
  rw [rounds_succ]
  cases t with
  | leaf k v =>
    have key := forks_leaf wd b k v wA hA
    go_wp2_with fail
    refine key.mono ?_
    rintro e w' ⟨rfl, rfl⟩
    go_wp2
    go_ret
    exact ⟨⟨w.heap.size + 1, rfl, q0, by omega, zB⟩, bA⟩
  | fork p l r =>
    have key := forks_fork wd b p l r wA hA
    obtain ⟨bl, br, kN, _, _⟩ := hA
    have c3 := (kN.cell 3).trans rfl
    have hp : ¬ (p : Int) < 0 := by omega
    go_wp2_with fail
    refine key.mono ?_
    rintro e w' ⟨rfl, rfl⟩
    go_wp2
    go_ret
    exact ⟨⟨w.heap.size + 1, rfl, q0, by omega, zB⟩, bA⟩

theorem leaves_all (wd : Int) (q : Option Addr) (o : Option Tr) (w : World) (h : TopAt wd w (.pointer q) o) :
    Calls Try.prog 27 #[.agg #[.int .i64 wd, .pointer q], .string (str [])] w fun e w' => LeavesFn q w e w' ∧ Below w.heap.size w w' := by
  cases o with
  | none =>
    have e : q = none := by have h : Value.pointer q = .pointer none := h; injection h
    subst e
    exact leaves_none wd w
  | some t =>
    obtain ⟨b, e, hn⟩ := h
    have e : q = some ⟨b, 0, none⟩ := by injection e
    subst e
    exact leaves_some wd b t w hn
end Go.Proofs.Ytncaimopkcnmbaa
