/- A key is put into a tree. -/
import Derived.Test.YtncaimopkcnmbaaTWi
import Derived.Test.YtncaimopkcnmbaaTPart
namespace Go.Proofs.Ytncaimopkcnmbaa
open Go.RowKit
set_option linter.unusedVariables false
set_option linter.unusedSimpArgs false

/-- Where a key parts from what is found at the end of its way. -/
def placeOf (key : Key) (t : Tr) : Nat := if (t.find key).1 = key then 288 else keyPart key (t.find key).1

def putO (key value : Key) (o : Option Tr) : Option Tr :=
  if getO key o = value then o
  else if value = [] then (match o with | none => none | some t => t.without key)
  else match o with | none => some (.leaf key value) | some t => some (t.with_ key value (placeOf key t))

theorem put_long (wd : Int) (q : Option Addr) (key value : Key) (w : World) (hk : key.length ≤ maxLen) (hv : value.length ≤ maxLen) (h : 32 < key.length ∨ 4096 < value.length) :
    Calls Try.prog 9 #[.agg #[.int .i64 wd, .pointer q], .string (str key), .string (str value)] w fun e w' => e = .returned (.tuple #[.agg #[.int .i64 0, .pointer none], .int .i64 3]) ∧ Below w.heap.size w w' := by
  have s1 := str_size key
  have s2 := str_size value
  unfold maxLen at hk hv
  by_cases h1 : 32 < key.length
  · have h1' : (32 : Int) < (key.length : Int) := by omega
    go_enter Try.func9, Try.ntmps9
    go_wp2
    exact bodyPost_ret (v := .tuple #[.agg #[.int .i64 0, .pointer none], .int .i64 3]) (by simp [results, Try.results9, go_sem]) rfl ⟨rfl, ((Below.refl _ _).alloc (Nat.le_refl _) _).alloc (by simp) _⟩
  · have h2 : 4096 < value.length := by omega
    have h1' : ¬ (32 : Int) < (key.length : Int) := by omega
    have h2' : (4096 : Int) < (value.length : Int) := by omega
    go_enter Try.func9, Try.ntmps9
    go_wp2
    exact bodyPost_ret (v := .tuple #[.agg #[.int .i64 0, .pointer none], .int .i64 3]) (by simp [results, Try.results9, go_sem]) rfl ⟨rfl, ((Below.refl _ _).alloc (Nat.le_refl _) _).alloc (by simp) _⟩

set_option maxHeartbeats 3200000 in
theorem put_keep (wd : Int) (q : Option Addr) (o : Option Tr) (key value : Key) (w : World) (hk : key.length ≤ 32) (hv : value.length ≤ 4096) (hp : ∀ t, o = some t → t.placed) (h : TopAt wd w (.pointer q) o) (he : getO key o = value) :
    Calls Try.prog 9 #[.agg #[.int .i64 wd, .pointer q], .string (str key), .string (str value)] w fun e w' => e = .returned (.tuple #[.agg #[.int .i64 wd, .pointer q], .int .i64 0]) ∧ Below w.heap.size w w' := by
  have s1 := str_size key
  have s2 := str_size value
  have h1' : ¬ (32 : Int) < (key.length : Int) := by omega
  have h2' : ¬ (4096 : Int) < (value.length : Int) := by omega
  have bA : Below w.heap.size w ((w.alloc (.cells #[.int .i64 wd, .pointer q] 28)).alloc (.cells #[.int .i64 0, .pointer none] 28)) := ((Below.refl _ _).alloc (Nat.le_refl _) _).alloc (by simp) _
  have kT := (Blk.new w #[.int .i64 wd, .pointer q] 28).alloc (.cells #[.int .i64 0, .pointer none] 28)
  have kR := Blk.new (w.alloc (.cells #[.int .i64 wd, .pointer q] 28)) #[.int .i64 0, .pointer none] 28
  rw [World.size_alloc] at kR
  have key1 := get_any wd (.pointer q) o key _ (by unfold maxLen; omega) hp (TopAt.below bA h)
  rw [he] at key1
  have l1 := str_toList value
  go_enter Try.func9, Try.ntmps9
  go_wp2_with fail
  generalize (w.alloc (.cells #[.int .i64 wd, .pointer q] 28)).alloc (.cells #[.int .i64 0, .pointer none] 28) = wA at *
  refine key1.mono ?_
  rintro e w1 ⟨rfl, b1⟩
  have B1 := bA.trans (b1.mono bA.size)
  have kT1 := kT.below b1 kT.lt
  have kR1 := kR.below b1 kR.lt
  have t0 := kT1.cell 0
  have t1 := kT1.cell 1
  have r0 := kR1.cell 0
  have r1 := kR1.cell 1
  have g0 := kR1.frozen 0
  have g1 := kR1.frozen 1
  have z1 := kT1.lt
  have z2 := kR1.lt
  simp only [List.getElem?_toArray, List.getElem?_cons_succ, List.getElem?_cons_zero] at t0 t1 r0 r1
  clear key1
  go_wp2
  exact bodyPost_ret (v := .tuple #[.agg #[.int .i64 wd, .pointer q], .int .i64 0]) (by simp [results, Try.results9, go_sem, t0, t1, r0, r1, g0, g1]) rfl ⟨rfl, (B1.setCell (p := ⟨w.heap.size + 1, 0, none⟩) (Nat.le_succ _) _).setCell (p := ⟨w.heap.size + 1, 1, none⟩) (Nat.le_succ _) _⟩
end Go.Proofs.Ytncaimopkcnmbaa
