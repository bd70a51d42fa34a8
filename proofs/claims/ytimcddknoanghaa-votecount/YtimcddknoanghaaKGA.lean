/- Both counts, side by side: what one vote more does to them. -/
import Derived.Test.YtimcddknoanghaaKStep
import Derived.Test.YtimcddknoanghaaKAdd
import Derived.Test.YtimcddknoanghaaKRAdd
import Derived.Test.YtimcddknoanghaaKNew

namespace Go.Proofs.Ytimcddknoanghaa
open Go.RowKit Go.Maps
set_option linter.unusedVariables false
set_option linter.unusedSimpArgs false

/-- The program's count and the answer's lie apart. -/
structure Two (w : World) (base cb mb : Nat) (sa : Option Addr) (sc rb : Nat) (xa : Option Addr) (xc : Nat) (la : Option Addr) (lc bs : Nat) (x : List (Int × Int)) (ht : Int) (m L : List Vt) (rv : Value) (rs : List Int) : Prop where
  P : CntAt w base cb mb sa sc x ht m rv rs
  R : RcAt w rb xa xc x ht la lc L
  O : w.ownsRow bs 34 6 (.slice la L.length lc) L.length (flatV L)
  cm : cb ≠ mb
  cr : rv.ownBlock ≠ some cb
  mr : rv.ownBlock ≠ some mb
  sa1 : ∀ a, sa = some a → a.block ≠ cb ∧ a.block ≠ mb ∧ rv.ownBlock ≠ some a.block ∧ a.block < w.heap.size
  sa2 : ∀ a, sa = some a → a.block ≠ rb
  rc : rb ≠ cb
  rm : rb ≠ mb
  rr : rv.ownBlock ≠ some rb
  xa1 : ∀ a, xa = some a → a.block ≠ rb ∧ a.block < w.heap.size
  xa2 : ∀ a, xa = some a → a.block ≠ cb ∧ a.block ≠ mb ∧ rv.ownBlock ≠ some a.block
  la1 : ∀ a, la = some a → a.block ≠ cb ∧ a.block ≠ mb ∧ rv.ownBlock ≠ some a.block
  bs1 : base ≤ w.heap.size

theorem Two.below {w w' : World} {base cb mb : Nat} {sa : Option Addr} {sc rb : Nat} {xa : Option Addr} {xc : Nat} {la : Option Addr} {lc bs : Nat} {x : List (Int × Int)} {ht : Int} {m L : List Vt} {rv : Value} {rs : List Int} (T : Two w base cb mb sa sc rb xa xc la lc bs x ht m L rv rs) (hb : Below w.heap.size w w') : Two w' base cb mb sa sc rb xa xc la lc bs x ht m L rv rs :=
  ⟨T.P.below hb, T.R.below hb, owns_keep T.O hb, T.cm, T.cr, T.mr, fun a ha => ⟨(T.sa1 a ha).1, (T.sa1 a ha).2.1, (T.sa1 a ha).2.2.1, Nat.lt_of_lt_of_le (T.sa1 a ha).2.2.2 hb.size⟩, T.sa2, T.rc, T.rm, T.rr, fun a ha => ⟨(T.xa1 a ha).1, Nat.lt_of_lt_of_le (T.xa1 a ha).2 hb.size⟩, T.xa2, T.la1, Nat.le_trans T.bs1 hb.size⟩
/-- The program has counted one more: the answer's count is as it was. -/
theorem Two.add {w w' : World} {base cb mb : Nat} {sa : Option Addr} {sc rb : Nat} {xa : Option Addr} {xc : Nat} {la : Option Addr} {lc bs : Nat} {x : List (Int × Int)} {ht : Int} {m L m' : List Vt} {rv rv' : Value} {rs rs' : List Int} (T : Two w base cb mb sa sc rb xa xc la lc bs x ht m L rv rs)
    (H : CntAt w' base cb mb sa sc x ht m' rv' rs') (B : But (fun k => k = cb ∨ k = mb ∨ rv.ownBlock = some k) w w') (hr : rv'.ownBlock = rv.ownBlock ∨ ∃ g, rv'.ownBlock = some g ∧ w.heap.size ≤ g) (hla : ∀ a, la = some a → a.block < w.heap.size) : Two w' base cb mb sa sc rb xa xc la lc bs x ht m' L rv' rs' := by
  have hn : ∀ k, k < w.heap.size → rv.ownBlock ≠ some k → rv'.ownBlock ≠ some k := fun k hk h e => by
    rcases hr with q | ⟨g, q1, q2⟩
    · exact h (by rw [← q]; exact e)
    · rw [q1] at e; have := Option.some.inj e; omega
  have hcb := T.P.k.lt
  have hmb := T.P.map.lt
  have hrb := T.R.k.lt
  have n1 : ¬ (rb = cb ∨ rb = mb ∨ rv.ownBlock = some rb) := fun q => by
    rcases q with q | q | q
    · exact T.rc q
    · exact T.rm q
    · exact T.rr q
  have n2 : ∀ a, xa = some a → ¬ (a.block = cb ∨ a.block = mb ∨ rv.ownBlock = some a.block) := fun a ha q => by
    rcases q with q | q | q
    · exact (T.xa2 a ha).1 q
    · exact (T.xa2 a ha).2.1 q
    · exact (T.xa2 a ha).2.2 q
  have n3 : ∀ a, la = some a → ¬ (a.block = cb ∨ a.block = mb ∨ rv.ownBlock = some a.block) := fun a ha q => by
    rcases q with q | q | q
    · exact (T.la1 a ha).1 q
    · exact (T.la1 a ha).2.1 q
    · exact (T.la1 a ha).2.2 q
  exact ⟨H, T.R.but B n1 n2 n3, B.owns T.O (fun g e => by
    cases hq : la with
    | none => rw [hq] at e; cases e
    | some a => rw [hq] at e; have := Option.some.inj e; rw [← this]; exact n3 a hq), T.cm, hn _ hcb T.cr, hn _ hmb T.mr,
    fun a ha => ⟨(T.sa1 a ha).1, (T.sa1 a ha).2.1, hn _ (T.sa1 a ha).2.2.2 (T.sa1 a ha).2.2.1, Nat.lt_of_lt_of_le (T.sa1 a ha).2.2.2 B.size⟩, T.sa2, T.rc, T.rm, hn _ hrb T.rr, fun a ha => ⟨(T.xa1 a ha).1, Nat.lt_of_lt_of_le (T.xa1 a ha).2 B.size⟩, fun a ha => ⟨(T.xa2 a ha).1, (T.xa2 a ha).2.1, hn _ (T.xa1 a ha).2 (T.xa2 a ha).2.2⟩, fun a ha => ⟨(T.la1 a ha).1, (T.la1 a ha).2.1, hn _ (hla a ha) (T.la1 a ha).2.2⟩, Nat.le_trans T.bs1 B.size⟩
/-- The answer has counted one more: the program's count is as it was. -/
theorem Two.radd {w w' : World} {base cb mb : Nat} {sa : Option Addr} {sc rb : Nat} {xa : Option Addr} {xc : Nat} {la la' : Option Addr} {lc lc' bs : Nat} {x : List (Int × Int)} {ht : Int} {m L L' : List Vt} {rv : Value} {rs : List Int} (T : Two w base cb mb sa sc rb xa xc la lc bs x ht m L rv rs)
    (H : RcAt w' rb xa xc x ht la' lc' L') (O : w'.ownsRow w.heap.size 34 6 (.slice la' L'.length lc') L'.length (flatV L')) (B : But (fun k => k = rb) w w') : Two w' base cb mb sa sc rb xa xc la' lc' w.heap.size x ht m L' rv rs := by
  have hcb := T.P.k.lt
  have hmb := T.P.map.lt
  have hf := owns_fresh O
  exact ⟨T.P.but B (fun e => T.rc e.symm) (fun e => T.rm e.symm) (fun a ha e => T.sa2 a ha e) (fun g e q => T.rr (by rw [e, q])), H, O, T.cm, T.cr, T.mr,
    fun a ha => ⟨(T.sa1 a ha).1, (T.sa1 a ha).2.1, (T.sa1 a ha).2.2.1, Nat.lt_of_lt_of_le (T.sa1 a ha).2.2.2 B.size⟩, T.sa2, T.rc, T.rm, T.rr, fun a ha => ⟨(T.xa1 a ha).1, Nat.lt_of_lt_of_le (T.xa1 a ha).2 B.size⟩, T.xa2,
    fun a ha => ⟨by have := hf a ha; omega, by have := hf a ha; omega, fun e => by have h1 := (T.P.rounds.lt _ e).2; have := hf a ha; omega⟩, Nat.le_trans T.bs1 B.size⟩
end Go.Proofs.Ytimcddknoanghaa

namespace Go.Proofs.Ytimcddknoanghaa
open Go.RowKit Go.Maps
set_option linter.unusedVariables false
set_option linter.unusedSimpArgs false

/-- The cells of a guilt. -/
def gv (a b : Vt) : Array Value := #[.int .i64 a.h, .int .i64 a.r, .int .i64 a.s, .bool a.has, .int .u64 a.bl, .int .i64 a.f, .int .i64 b.h, .int .i64 b.r, .int .i64 b.s, .bool b.has, .int .u64 b.bl, .int .i64 b.f]
def vz : Vt := ⟨0, 0, 0, false, 0, 0⟩
theorem add_same {base cb mb : Nat} {sa : Option Addr} {sc rb : Nat} {xa : Option Addr} {xc : Nat} {x : List (Int × Int)} {ht : Int} {m L : List Vt} {rv : Value} {rs : List Int} {v : Vt} {P : Int} {w w' w2 w2' : World} {e e2 : Ending} (C : Cnt x ht m L rs)
    (hv : P = 0 → v.h = ht ∧ hasP x v.f = true ∧ 0 ≤ v.s ∧ v.s ≤ 2 ∧ InN3 v.r v.s v.f)
    (h1 : AddX base cb mb sa sc x ht m rv rs v P w e w') (h2 : RAddX rb xa xc x ht L v P w2 e2 w2') :
    ∃ a b p, e = .returned (.tuple #[.agg (gv a b), .int .i64 p]) ∧ e2 = .returned (.tuple #[.agg (gv a b), .int .i64 p]) ∧
      ((Below w.heap.size w w' ∧ Below w2.heap.size w2 w2') ∨
       ∃ m' L' rv' rs' la' lc', Cnt x ht m' L' rs' ∧ L'.length = L.length + 1 ∧ rs'.length ≤ rs.length + 1 ∧ CntAt w' base cb mb sa sc x ht m' rv' rs' ∧ But (fun k => k = cb ∨ k = mb ∨ rv.ownBlock = some k) w w' ∧ (rv'.ownBlock = rv.ownBlock ∨ ∃ g, rv'.ownBlock = some g ∧ w.heap.size ≤ g) ∧
         RcAt w2' rb xa xc x ht la' lc' L' ∧ w2'.ownsRow w2.heap.size 34 6 (.slice la' L'.length lc') L'.length (flatV L') ∧ But (fun j => j = rb) w2 w2') := by
  rcases h1 with ⟨hP, rfl, b1⟩ | ⟨hP, h1⟩
  · rcases h2 with ⟨_, rfl, b2⟩ | ⟨hP2, _⟩
    · exact ⟨vz, vz, P, rfl, rfl, .inl ⟨b1, b2⟩⟩
    · exact absurd hP2 hP
  · rcases h2 with ⟨hP2, _⟩ | ⟨_, k, hk, t1, t2, h2⟩
    · exact absurd hP hP2
    · rcases h2 with ⟨y, hy, sp, rfl, rfl, b2⟩ | ⟨y, hy, sp, hne, rfl, b2⟩ | ⟨hns, rfl, la', lc', R', O', B'⟩
      · have hat := step_same C hy sp
        rcases h1 with ⟨u, hu, _, rfl, b1⟩ | ⟨u, hu, hne, _⟩ | ⟨hu, _⟩
        · exact ⟨vz, vz, 31, rfl, rfl, .inl ⟨b1, b2⟩⟩
        · rw [hat] at hu; exact absurd (Option.some.inj hu).symm hne
        · rw [hat] at hu; cases hu
      · have hat := step_same C hy sp
        rcases h1 with ⟨u, hu, hue, _⟩ | ⟨u, hu, _, rfl, b1⟩ | ⟨hu, _⟩
        · rw [hat] at hu; exact absurd ((Option.some.inj hu).trans hue) hne
        · rw [hat] at hu
          obtain rfl := Option.some.inj hu
          exact ⟨y, v, 23, rfl, rfl, .inl ⟨b1, b2⟩⟩
        · rw [hat] at hu; cases hu
      · have hat := step_none C t1 t2 hns
        rcases h1 with ⟨u, hu, _⟩ | ⟨u, hu, _⟩ | ⟨_, rfl, rv', rs', H', B1, hr, rfl⟩
        · rw [hat] at hu; cases hu
        · rw [hat] at hu; cases hu
        · refine ⟨vz, vz, 0, rfl, rfl, .inr ⟨_, _, rv', _, la', lc', step_cnt C t1 t2 hns (hv hP), by simp; omega, ?_, H', B1, hr, R', O', B'⟩⟩
          split
          · omega
          · rw [insAt_len _ _ _ List.countP_le_length]; omega
end Go.Proofs.Ytimcddknoanghaa
