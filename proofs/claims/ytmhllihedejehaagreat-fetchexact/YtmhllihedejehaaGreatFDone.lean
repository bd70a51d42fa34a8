/- New and Done of a tree that is fetched. -/
import Derived.Test.YtmhllihedejehaaGreatFGive
import Derived.Test.YtmhllihedejehaaGreatM21
import Derived.Test.YtmhllihedejehaaGreatTGrow2
namespace Go.Proofs.YtmhllihedejehaaGreat
open Go.RowKit Go.Maps
set_option linter.unusedVariables false
set_option linter.unusedSimpArgs false

/-- What New gives. -/
def NewE (w : World) (wd root : Int) (e : Ending) (w' : World) : Prop := ∃ fb mb, e = .returned (.pointer (some ⟨fb, 0, none⟩)) ∧ St w.heap.size w' fb wd root mb [([], root)] none [] ∧ Below w.heap.size w w'

set_option maxRecDepth 8000 in
set_option maxHeartbeats 3200000 in
theorem newF_any (wd root : Int) (w : World) : Calls Tryz.prog 7 #[.int .i64 wd, .int .u64 root] w fun e w' => NewE w wd root e w' := by
  have hmm := @run_makeMap Tryz.prog
  have KN := new_any wd (w.alloc (.cells #[.int .u64 root, .pointer none, .pointer none, .pointer none] 71))
  have bA : Below w.heap.size w (w.alloc (.cells #[.int .u64 root, .pointer none, .pointer none, .pointer none] 71)) := (Below.refl _ _).alloc (Nat.le_refl _) _
  have k1 := Blk.new w #[.int .u64 root, .pointer none, .pointer none, .pointer none] 71
  go_enter Tryz.func7, Tryz.ntmps7
  go_wp2_with fail
  refine KN.mono ?_
  clear KN
  generalize w.alloc (.cells #[.int .u64 root, .pointer none, .pointer none, .pointer none] 71) = w1 at *
  rintro e w2 ⟨rfl, b2⟩
  have B2 := bA.trans (b2.mono bA.size)
  have k2 := k1.below b2 k1.lt
  have k3 := (k2.alloc (.map #[] 0)).alloc (.cells #[.int .i64 wd, .int .u64 root, .pointer (some ⟨w.heap.size, 0, none⟩), .int .i64 wd, .pointer none, .map (some w2.heap.size)] 74)
  have m2 := (World.ownsMap_made (H := Unit) w2 Tryz.prog 3 unitElem).alloc (.cells #[.int .i64 wd, .int .u64 root, .pointer (some ⟨w.heap.size, 0, none⟩), .int .i64 wd, .pointer none, .map (some w2.heap.size)] 74)
  have f3 := Blk.new (w2.alloc (.map #[] 0)) #[.int .i64 wd, .int .u64 root, .pointer (some ⟨w.heap.size, 0, none⟩), .int .i64 wd, .pointer none, .map (some w2.heap.size)] 74
  rw [World.size_alloc] at f3
  have B3 := (B2.alloc B2.size (.map #[] 0)).alloc (by simp; have := B2.size; omega) (.cells #[.int .i64 wd, .int .u64 root, .pointer (some ⟨w.heap.size, 0, none⟩), .int .i64 wd, .pointer none, .map (some w2.heap.size)] 74)
  have hz := B2.size
  clear k1 k2 bA b2
  go_wp2
  go_ret
  refine ⟨w2.heap.size + 1, w2.heap.size, rfl, ⟨.is w.heap.size root .no .no, none, ⟨f3, ⟨k3, trivial, trivial⟩, by simp [PT.bs], rfl, Good.none, m2, by omega, fun b hb => ?_⟩, rfl⟩, B3⟩
  simp [PT.bs] at hb
  omega

section
variable {base : Nat} {fb : Nat} {wd root : Int} {L : List (Key × Int)} {o : Option Tr} {bar : List Int} {mb : Nat}
/-- What Done gives. -/
def DoneE (w : World) (wd root : Int) (L : List (Key × Int)) (o : Option Tr) (e : Ending) (w' : World) : Prop :=
  Below w.heap.size w w' ∧ ((L ≠ [] ∧ e = .returned (.tuple #[.agg #[.int .i64 0, .pointer none], .int .i64 26])) ∨ (L = [] ∧ rootP wd o ≠ root ∧ e = .returned (.tuple #[.agg #[.int .i64 0, .pointer none], .int .i64 5])) ∨
    (L = [] ∧ rootP wd o = root ∧ ∃ q, e = .returned (.tuple #[.agg #[.int .i64 wd, .pointer q], .int .i64 0]) ∧ TopAt wd w' (.pointer q) o))

set_option maxRecDepth 8000 in
set_option maxHeartbeats 3200000 in
theorem done_any (w : World) (hw : okW wd) (H : St base w fb wd root mb L o bar) :
    Calls Tryz.prog 17 #[.pointer (some ⟨fb, 0, none⟩)] w fun e w' => DoneE w wd root L o e w' := by
  obtain ⟨pt, q, H, eL⟩ := H
  have bA : Below w.heap.size w (w.alloc (.cells #[.int .i64 0, .pointer none] 34)) := (Below.refl _ _).alloc (Nat.le_refl _) _
  have H1 := H.below bA
  have kz := Blk.new w #[.int .i64 0, .pointer none] 34
  have c2 := (H1.k.cell 2).trans rfl
  have zf := H1.k.lt
  cases pt with
  | is b d l r =>
    have hne : L ≠ [] := by rw [← eL]; exact PT.wants_any _ _ rfl
    have e0 : (PT.is b d l r).at = some ⟨b, 0, none⟩ := rfl
    rw [e0] at c2
    have z0 := (kz.cell 0).trans rfl
    have z1 := (kz.cell 1).trans rfl
    have g0 := kz.frozen 0
    have g1 := kz.frozen 1
    have zk := kz.lt
    clear H H1 eL
    go_enter Tryz.func17, Tryz.ntmps17
    go_wp2
    exact bodyPost_ret (v := .tuple #[.agg #[.int .i64 0, .pointer none], .int .i64 26]) (by simp [results, Tryz.results17, go_sem, z0, z1, g0, g1, zk]) rfl ⟨bA, .inl ⟨hne, rfl⟩⟩
  | no =>
    have hL : L = [] := eL.symm
    have e0 : PT.no.at = none := rfl
    rw [e0] at c2
    have HH : Hid (FetAt base (w.alloc (.cells #[.int .i64 0, .pointer none] 34)) fb wd root .no o bar q mb) := H1
    clear H H1 eL
    go_enter Tryz.func17, Tryz.ntmps17
    go_upto_region 3 with fail
    generalize w.alloc (.cells #[.int .i64 0, .pointer none] 34) = wB at *
    have F1 : ∀ w', Below wB.heap.size wB w' → w'.cell? ⟨fb, 1, none⟩ = some (.int .u64 root) := fun w' h => ((HH.out.k.below h HH.out.k.lt).cell 1).trans rfl
    have F3 : ∀ w', Below wB.heap.size wB w' → w'.cell? ⟨fb, 3, none⟩ = some (.int .i64 wd) := fun w' h => ((HH.out.k.below h HH.out.k.lt).cell 3).trans rfl
    have F4 : ∀ w', Below wB.heap.size wB w' → w'.cell? ⟨fb, 4, none⟩ = some (.pointer q) := fun w' h => ((HH.out.k.below h HH.out.k.lt).cell 4).trans rfl
    have KR := fun w' (h : Below wB.heap.size wB w') => root_any wd q o w' hw (TopAt.below h HH.out.tr)
    have bw : Below wB.heap.size wB wB := Below.refl _ _
    have bd : Below wB.heap.size wB wB.drew := (Below.refl _ _).drew
    clear c2 zf
    go_region_held3 (fun w' => Below wB.heap.size wB w') (first | assumption | (refine Below.drew ?_; assumption))
      (first
      | (go_at_call 21
         refine (KR _ (by assumption)).mono ?_
         rintro e w3 ⟨rfl, b3⟩
         have hNext : Below wB.heap.size wB w3 := bel_in (by assumption) b3))
    have k3 := kz.below hNext kz.lt
    have f3 := HH.out.below hNext
    have z0 := (k3.cell 0).trans rfl
    have z1 := (k3.cell 1).trans rfl
    have g0 := k3.frozen 0
    have g1 := k3.frozen 1
    have zk := k3.lt
    have x3 := F3 w3 hNext
    have x4 := F4 w3 hNext
    have zf := f3.k.lt
    have hT : Hid (TopAt wd w3 (.pointer q) o) := f3.tr
    have B3 := bA.trans (hNext.mono bA.size)
    have s0 := fun v => (k3.set 0 v)
    clear F1 F3 F4 KR HH kz f3
    by_cases hr : rootP wd o = root
    · have hb : (rootP wd o != root) = false := by simpa using hr
      have HR : Hid (rootP wd o = root) := hr
      clear hr
      go_wp2
      have hTs : TopAt wd ((w3.setCell ⟨w.heap.size, 0, none⟩ (.int .i64 wd)).setCell ⟨w.heap.size, 1, none⟩ (.pointer q)) (.pointer q) o := (TopAt.setAny hT.out k3 (by decide) 0 _).setAny (k3.set 0 _) (by decide) 1 _
      exact bodyPost_ret (v := .tuple #[.agg #[.int .i64 wd, .pointer q], .int .i64 0]) (by simp [results, Tryz.results17, go_sem, z0, z1, g0, g1, zk]) rfl ⟨(B3.setCell (Nat.le_refl _) _).setCell (Nat.le_refl _) _, .inr (.inr ⟨hL, HR.out, q, rfl, hTs⟩)⟩
    · have hb : (rootP wd o != root) = true := by simpa using hr
      have HR : Hid (rootP wd o ≠ root) := hr
      clear hr
      go_wp2
      exact bodyPost_ret (v := .tuple #[.agg #[.int .i64 0, .pointer none], .int .i64 5]) (by simp [results, Tryz.results17, go_sem, z0, z1, g0, g1, zk]) rfl ⟨(B3.setCell (Nat.le_refl _) _).setCell (Nat.le_refl _) _, .inr (.inl ⟨hL, HR.out, rfl⟩)⟩
end
end Go.Proofs.YtmhllihedejehaaGreat
