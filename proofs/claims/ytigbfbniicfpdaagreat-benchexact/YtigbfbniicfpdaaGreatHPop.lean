/- The heap of seats: Pop of its own. -/
import Derived.Test.YtigbfbniicfpdaaGreatHPush
namespace Go.Proofs.YtigbfbniicfpdaaGreat
open Go.RowKit
set_option linter.unusedVariables false
set_option linter.unusedSimpArgs false

theorem flatS_take (l : List (Int × Int)) : ∀ k, flatS (l.take k) = (flatS l).take (k * 2) := by
  induction l with
  | nil => intro k; simp [flatS]
  | cons y r ih =>
    intro k
    cases k with
    | zero => simp [flatS]
    | succ k =>
      have e : flatS (y :: r) = .int .i64 y.1 :: .int .i64 y.2 :: flatS r := rfl
      have e2 : flatS (y :: r.take k) = .int .i64 y.1 :: .int .i64 y.2 :: flatS (r.take k) := rfl
      rw [List.take_succ_cons, e, e2, ih k, show (k + 1) * 2 = k * 2 + 1 + 1 by omega, List.take_succ_cons, List.take_succ_cons]

set_option maxHeartbeats 1600000 in
theorem mpop_any (g sc : Nat) (l : List (Int × Int)) (n : Nat) (hl : l.length = n + 1) (hn : l.length ≤ 100) (base hb mb : Nat) (w : World) (H : HpAt w base hb mb l (some ⟨g, 0, none⟩) sc) :
    Calls Tryz.prog 116 #[.pointer (some ⟨hb, 0, none⟩)] w fun e w' => (∃ v, e = .returned v) ∧ HpAt w' base hb mb (l.take n) (some ⟨g, 0, none⟩) sc ∧ Hk base mb w w' := by
  obtain ⟨g', cur, e, hg, hk, hs, hle, hm, ht⟩ := H.row (by intro e; rw [e] at hl; simp at hl)
  injection e with e
  injection e with e1
  subst e1
  have hi : n < l.length := by omega
  obtain ⟨b1, o1, e1, z1, a1, a2⟩ := H.at_.one hi
  injection e1 with e1
  injection e1 with e2 e3
  subst e2 e3
  simp only [Nat.zero_add] at a1 a2
  have c0 : w.cell? ⟨hb, 0, none⟩ = some (.slice (some ⟨g, 0, none⟩) (n + 1) sc) := by rw [← hl]; exact (H.k.cell 0).trans rfl
  have zb := H.k.lt
  have hle2 : n + 1 ≤ sc := by omega
  have hsc : (sc : Int) ≤ 9223372036854775807 := by unfold maxLen at hm; omega
  generalize l[n] = x at *
  obtain ⟨xk, xv⟩ := x
  simp only at a1 a2
  have hlt : (l.take n).length = n := by rw [List.length_take]; omega
  have f0 := H.k.frozen 0
  have H1 : HpAt (w.setCell ⟨hb, 0, none⟩ (.slice (some ⟨g, 0, none⟩) n sc)) base hb mb (l.take n) (some ⟨g, 0, none⟩) sc := by
    refine ⟨?_, ⟨?_, .inr ⟨g, sc, cur, ?_, hg, ?_, ?_, hm, hs, ?_⟩⟩, H.ne, H.lo, ?_⟩
    · rw [hlt]
      exact H.k.set 0 _
    · rw [hlt, flatS_len, hlt]
    · rw [hlt]
    · exact hk.setOther _ (by have : g ≠ hb := (H.ne _ rfl).1; simp only; omega) _
    · rw [hlt]; omega
    · rw [hlt, flatS_take, ← ht, List.take_take, show min (n * 2) (l.length * 2) = n * 2 by omega]
    · have := H.mh
      simp only [World.setCell, Array.size_modify]
      exact this
  have K1 : Hk base mb w (w.setCell ⟨hb, 0, none⟩ (.slice (some ⟨g, 0, none⟩) n sc)) := (Hk.refl base mb w).set H.lo _
  have bA : Below (w.setCell ⟨hb, 0, none⟩ (.slice (some ⟨g, 0, none⟩) n sc)).heap.size (w.setCell ⟨hb, 0, none⟩ (.slice (some ⟨g, 0, none⟩) n sc)) ((w.setCell ⟨hb, 0, none⟩ (.slice (some ⟨g, 0, none⟩) n sc)).alloc (.cells #[.int .i64 xk, .int .i64 xv] 39)) := (Below.refl _ _).alloc (Nat.le_refl _) _
  have HF := show Hid (_ ∧ _) from ⟨H1.next bA, K1.trans (Hk.of bA H1.hi H1.mh)⟩
  have hn1 : n ≤ 100 := by omega
  clear H hk hs ht hlt hi H1 K1 bA
  go_enter Tryz.func116, Tryz.ntmps116
  go_wp2
  go_ret
  exact ⟨⟨_, rfl⟩, HF.out.1, HF.out.2⟩
end Go.Proofs.YtigbfbniicfpdaaGreat
