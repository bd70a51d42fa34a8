/- What proves guilt: the answer's. -/
import Derived.Test.YtomkiglagpfnoaaVProv
namespace Go.Proofs.Ytomkiglagpfnoaa
open Go.RowKit
set_option linter.unusedVariables false
set_option linter.unusedSimpArgs false

set_option maxHeartbeats 1600000 in
theorem rproves_any (h r s : Int) (has : Bool) (bl f h2 r2 s2 : Int) (has2 : Bool) (bl2 f2 : Int) (w : World) (S : ByteArray) (E : Int)
    (K : ∀ x : World, Calls Try.prog 13 #[.agg #[.int .i64 h, .int .i64 r, .int .i64 s, .bool has, .int .u64 bl, .int .i64 f, .int .i64 h2, .int .i64 r2, .int .i64 s2, .bool has2, .int .u64 bl2, .int .i64 f2]] x fun e w' => e = .returned (.tuple #[.string S, .int .i64 E]) ∧ Below x.heap.size x w') :
    Calls Try.prog 6 #[.agg #[.int .i64 h, .int .i64 r, .int .i64 s, .bool has, .int .u64 bl, .int .i64 f, .int .i64 h2, .int .i64 r2, .int .i64 s2, .bool has2, .int .u64 bl2, .int .i64 f2]] w fun e w' => e = .returned (.bool (provP E h r s has bl f h2 r2 s2 has2 bl2 f2)) ∧ Below w.heap.size w w' := by
  have bA : Below w.heap.size w (w.alloc (.cells #[.int .i64 h, .int .i64 r, .int .i64 s, .bool has, .int .u64 bl, .int .i64 f, .int .i64 h2, .int .i64 r2, .int .i64 s2, .bool has2, .int .u64 bl2, .int .i64 f2] 31)) := (Below.refl _ _).alloc (Nat.le_refl _) _
  have kG := Blk.new w #[.int .i64 h, .int .i64 r, .int .i64 s, .bool has, .int .u64 bl, .int .i64 f, .int .i64 h2, .int .i64 r2, .int .i64 s2, .bool has2, .int .u64 bl2, .int .i64 f2] 31
  have KA := K (w.alloc (.cells #[.int .i64 h, .int .i64 r, .int .i64 s, .bool has, .int .u64 bl, .int .i64 f, .int .i64 h2, .int .i64 r2, .int .i64 s2, .bool has2, .int .u64 bl2, .int .i64 f2] 31))
  obtain ⟨P, HP⟩ : ∃ P, Hid (provP E h r s has bl f h2 r2 s2 has2 bl2 f2 = P) := ⟨_, rfl⟩
  rw [HP.out]
  go_enter Try.func6, Try.ntmps6
  go_wp2_with fail
  refine KA.mono ?_
  rintro e w1 ⟨rfl, b1⟩
  have kG1 := kG.below b1 kG.lt
  have B1 := bA.trans (b1.mono bA.size)
  clear K KA kG b1 bA
  have C0 : ∀ w', Below w1.heap.size w1 w' → w'.cell? ⟨w.heap.size, 0, none⟩ = some (.int .i64 h) := fun w' hb => ((kG1.below hb kG1.lt).cell 0).trans rfl
  have C1 : ∀ w', Below w1.heap.size w1 w' → w'.cell? ⟨w.heap.size, 1, none⟩ = some (.int .i64 r) := fun w' hb => ((kG1.below hb kG1.lt).cell 1).trans rfl
  have C2 : ∀ w', Below w1.heap.size w1 w' → w'.cell? ⟨w.heap.size, 2, none⟩ = some (.int .i64 s) := fun w' hb => ((kG1.below hb kG1.lt).cell 2).trans rfl
  have C3 : ∀ w', Below w1.heap.size w1 w' → w'.cell? ⟨w.heap.size, 3, none⟩ = some (.bool has) := fun w' hb => ((kG1.below hb kG1.lt).cell 3).trans rfl
  have C4 : ∀ w', Below w1.heap.size w1 w' → w'.cell? ⟨w.heap.size, 4, none⟩ = some (.int .u64 bl) := fun w' hb => ((kG1.below hb kG1.lt).cell 4).trans rfl
  have C5 : ∀ w', Below w1.heap.size w1 w' → w'.cell? ⟨w.heap.size, 5, none⟩ = some (.int .i64 f) := fun w' hb => ((kG1.below hb kG1.lt).cell 5).trans rfl
  have C6 : ∀ w', Below w1.heap.size w1 w' → w'.cell? ⟨w.heap.size, 6, none⟩ = some (.int .i64 h2) := fun w' hb => ((kG1.below hb kG1.lt).cell 6).trans rfl
  have C7 : ∀ w', Below w1.heap.size w1 w' → w'.cell? ⟨w.heap.size, 7, none⟩ = some (.int .i64 r2) := fun w' hb => ((kG1.below hb kG1.lt).cell 7).trans rfl
  have C8 : ∀ w', Below w1.heap.size w1 w' → w'.cell? ⟨w.heap.size, 8, none⟩ = some (.int .i64 s2) := fun w' hb => ((kG1.below hb kG1.lt).cell 8).trans rfl
  have C9 : ∀ w', Below w1.heap.size w1 w' → w'.cell? ⟨w.heap.size, 9, none⟩ = some (.bool has2) := fun w' hb => ((kG1.below hb kG1.lt).cell 9).trans rfl
  have C10 : ∀ w', Below w1.heap.size w1 w' → w'.cell? ⟨w.heap.size, 10, none⟩ = some (.int .u64 bl2) := fun w' hb => ((kG1.below hb kG1.lt).cell 10).trans rfl
  have C11 : ∀ w', Below w1.heap.size w1 w' → w'.cell? ⟨w.heap.size, 11, none⟩ = some (.int .i64 f2) := fun w' hb => ((kG1.below hb kG1.lt).cell 11).trans rfl
  have zG := kG1.lt
  have c0 := C0 _ (Below.refl _ _)
  have c1 := C1 _ (Below.refl _ _)
  have c2 := C2 _ (Below.refl _ _)
  have c3 := C3 _ (Below.refl _ _)
  have c4 := C4 _ (Below.refl _ _)
  have c5 := C5 _ (Below.refl _ _)
  have c6 := C6 _ (Below.refl _ _)
  have c7 := C7 _ (Below.refl _ _)
  have c8 := C8 _ (Below.refl _ _)
  have c9 := C9 _ (Below.refl _ _)
  have c10 := C10 _ (Below.refl _ _)
  have c11 := C11 _ (Below.refl _ _)
  clear kG1 C0 C1 C2 C3 C4 C5 C6 C7 C8 C9 C10 C11
  by_cases qE : E = 0
  rotate_left
  · have HF : Hid (P = false) := by show _ = _; rw [← HP.out]; exact decide_eq_false fun g => qE g.1
    have hd : (E == 0) = false := by simpa using qE
    clear HP qE
    go_wp2
    go_ret
    exact ⟨by rw [HF.out]; rfl, by first | exact B1 | exact (B1.alloc B1.size _).alloc (by have := B1.size; simp; omega) _⟩
  subst qE
  by_cases qh : h = h2
  rotate_left
  · have HF : Hid (P = false) := by show _ = _; rw [← HP.out]; exact decide_eq_false fun g => qh g.2.1
    have hd : (h == h2) = false := by simpa using qh
    clear HP qh
    go_wp2
    go_ret
    exact ⟨by rw [HF.out]; rfl, by first | exact B1 | exact (B1.alloc B1.size _).alloc (by have := B1.size; simp; omega) _⟩
  subst qh
  by_cases qr : r = r2
  rotate_left
  · have HF : Hid (P = false) := by show _ = _; rw [← HP.out]; exact decide_eq_false fun g => qr g.2.2.1.1
    have hd : (r == r2) = false := by simpa using qr
    clear HP qr
    go_wp2
    go_ret
    exact ⟨by rw [HF.out]; rfl, by first | exact B1 | exact (B1.alloc B1.size _).alloc (by have := B1.size; simp; omega) _⟩
  subst qr
  by_cases qs : s = s2
  rotate_left
  · have HF : Hid (P = false) := by show _ = _; rw [← HP.out]; exact decide_eq_false fun g => qs g.2.2.1.2.1
    have hd : (s == s2) = false := by simpa using qs
    clear HP qs
    go_wp2
    go_ret
    exact ⟨by rw [HF.out]; rfl, by first | exact B1 | exact (B1.alloc B1.size _).alloc (by have := B1.size; simp; omega) _⟩
  subst qs
  by_cases qf : f = f2
  rotate_left
  · have HF : Hid (P = false) := by show _ = _; rw [← HP.out]; exact decide_eq_false fun g => qf g.2.2.1.2.2
    have hd : (f == f2) = false := by simpa using qf
    clear HP qf
    go_wp2
    go_ret
    exact ⟨by rw [HF.out]; rfl, by first | exact B1 | exact (B1.alloc B1.size _).alloc (by have := B1.size; simp; omega) _⟩
  subst qf
  by_cases hb : has = has2
  · subst hb
    by_cases hl : bl = bl2
    · subst hl
      have HF : Hid (P = false) := by show _ = _; rw [← HP.out]; exact decide_eq_false fun g => g.2.2.2 ⟨rfl, rfl⟩
      clear HP
      go_wp2
      go_ret
      exact ⟨by rw [HF.out]; rfl, by first | exact B1 | exact (B1.alloc B1.size _).alloc (by have := B1.size; simp; omega) _⟩
    · have HF : Hid (P = true) := by show _ = _; rw [← HP.out]; exact decide_eq_true ⟨rfl, rfl, ⟨rfl, rfl, rfl⟩, fun g => hl g.2⟩
      have hd : (bl == bl2) = false := by simpa using hl
      clear HP hl
      go_wp2
      go_ret
      exact ⟨by rw [HF.out]; rfl, by first | exact B1 | exact (B1.alloc B1.size _).alloc (by have := B1.size; simp; omega) _⟩
  · have HF : Hid (P = true) := by show _ = _; rw [← HP.out]; exact decide_eq_true ⟨rfl, rfl, ⟨rfl, rfl, rfl⟩, fun g => hb g.1⟩
    have hd : (has == has2) = false := by simpa using hb
    clear HP hb
    go_wp2
    go_ret
    exact ⟨by rw [HF.out]; rfl, by first | exact B1 | exact (B1.alloc B1.size _).alloc (by have := B1.size; simp; omega) _⟩
end Go.Proofs.Ytomkiglagpfnoaa
