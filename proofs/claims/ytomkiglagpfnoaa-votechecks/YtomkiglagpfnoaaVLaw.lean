/- VoteChecks: the law. -/
import Derived.Test.YtomkiglagpfnoaaVProvR
import Derived.Test.YtomkiglagpfnoaaVChk
import Derived.Deep.RegionHeld3
namespace Go.Proofs.Ytomkiglagpfnoaa
open Go.RowKit
set_option linter.unusedVariables false
set_option linter.unusedSimpArgs false

set_option maxHeartbeats 1600000 in
theorem checks_any (la fa : Option Addr) (ca fc : Nat) (l : List (Int × Int)) (fr : List Int) (ch cr cs : Int) (chas : Bool) (cbl : Int) (h r s : Int) (has : Bool) (bl f h2 r2 s2 : Int) (has2 : Bool) (bl2 f2 : Int) (w : World) (S : ByteArray) (E : Int) (T : ByteArray) (F : Int) (hl : l.length ≤ maxLen)
    (hw : ∀ x ∈ l, (-9223372036854775808 ≤ x.1 ∧ x.1 ≤ 9223372036854775807) ∧ -9223372036854775808 ≤ x.2 ∧ x.2 ≤ 9223372036854775807) (h1 : SeatsAt w la l) (hf : fr.length ≤ maxLen) (hI : IntsAt w fa fr)
    (K1 : ∀ x : World, Calls Try.prog 11 #[.agg #[.int .i64 h, .int .i64 r, .int .i64 s, .bool has, .int .u64 bl, .int .i64 f, .int .i64 h2, .int .i64 r2, .int .i64 s2, .bool has2, .int .u64 bl2, .int .i64 f2]] x fun e w' => e = .returned (.tuple #[.string S, .int .i64 E]) ∧ Below x.heap.size x w')
    (K2 : ∀ x : World, Calls Try.prog 13 #[.agg #[.int .i64 h, .int .i64 r, .int .i64 s, .bool has, .int .u64 bl, .int .i64 f, .int .i64 h2, .int .i64 r2, .int .i64 s2, .bool has2, .int .u64 bl2, .int .i64 f2]] x fun e w' => e = .returned (.tuple #[.string S, .int .i64 E]) ∧ Below x.heap.size x w')
    (K3 : fr.length ≤ 4096 → ∀ y : World, Below w.heap.size w y → Calls Try.prog 14 #[.agg #[.int .i64 ch, .int .i64 cr, .int .i64 cs, .bool chas, .int .u64 cbl, .slice fa fr.length fc]] y fun e w' => e = .returned (.tuple #[.string T, .int .i64 F]) ∧ Below y.heap.size y w')
    (K4 : fr.length ≤ 4096 → ∀ y : World, Below w.heap.size w y → Calls Try.prog 17 #[.agg #[.int .i64 ch, .int .i64 cr, .int .i64 cs, .bool chas, .int .u64 cbl, .slice fa fr.length fc]] y fun e w' => e = .returned (.tuple #[.string T, .int .i64 F]) ∧ Below y.heap.size y w') :
    Calls Try.prog 3 #[.slice la l.length ca, .agg #[.int .i64 ch, .int .i64 cr, .int .i64 cs, .bool chas, .int .u64 cbl, .slice fa fr.length fc], .agg #[.int .i64 h, .int .i64 r, .int .i64 s, .bool has, .int .u64 bl, .int .i64 f, .int .i64 h2, .int .i64 r2, .int .i64 s2, .bool has2, .int .u64 bl2, .int .i64 f2]] w fun e w' => e = .returned (.bool true) ∧ Below w.heap.size w w' := by
  have hll := hl
  have bA : Below w.heap.size w ((w.alloc (.cells #[.int .i64 ch, .int .i64 cr, .int .i64 cs, .bool chas, .int .u64 cbl, .slice fa fr.length fc] 27)).alloc (.cells #[.int .i64 h, .int .i64 r, .int .i64 s, .bool has, .int .u64 bl, .int .i64 f, .int .i64 h2, .int .i64 r2, .int .i64 s2, .bool has2, .int .u64 bl2, .int .i64 f2] 31)) := ((Below.refl _ _).alloc (Nat.le_refl _) _).alloc (by simp) _
  have kC := (Blk.new w #[.int .i64 ch, .int .i64 cr, .int .i64 cs, .bool chas, .int .u64 cbl, .slice fa fr.length fc] 27).alloc (.cells #[.int .i64 h, .int .i64 r, .int .i64 s, .bool has, .int .u64 bl, .int .i64 f, .int .i64 h2, .int .i64 r2, .int .i64 s2, .bool has2, .int .u64 bl2, .int .i64 f2] 31)
  have kG := Blk.new (w.alloc (.cells #[.int .i64 ch, .int .i64 cr, .int .i64 cs, .bool chas, .int .u64 cbl, .slice fa fr.length fc] 27)) #[.int .i64 h, .int .i64 r, .int .i64 s, .bool has, .int .u64 bl, .int .i64 f, .int .i64 h2, .int .i64 r2, .int .i64 s2, .bool has2, .int .u64 bl2, .int .i64 f2] 31
  rw [World.size_alloc] at kG
  unfold maxLen at hl hf
  by_cases hg : 4096 < l.length
  · have g1' : (4096 : Int) < (l.length : Int) := by omega
    go_enter Try.func3, Try.ntmps3
    go_wp2
    go_ret
    first
    | exact ⟨rfl, bA⟩
    | exact ⟨rfl, bA.alloc bA.size _⟩
    | exact ⟨rfl, Below.refl _ _⟩
  have g1' : ¬ (4096 : Int) < (l.length : Int) := by omega
  by_cases hg2 : 4096 < fr.length
  · have g2' : (4096 : Int) < (fr.length : Int) := by omega
    go_enter Try.func3, Try.ntmps3
    go_wp2
    go_ret
    first
    | exact ⟨rfl, bA⟩
    | exact ⟨rfl, bA.alloc bA.size _⟩
    | exact ⟨rfl, Below.refl _ _⟩
  have g2' : ¬ (4096 : Int) < (fr.length : Int) := by omega
  go_enter Try.func3, Try.ntmps3
  go_wp2_with fail
  generalize ((w.alloc (.cells #[.int .i64 ch, .int .i64 cr, .int .i64 cs, .bool chas, .int .u64 cbl, .slice fa fr.length fc] 27)).alloc (.cells #[.int .i64 h, .int .i64 r, .int .i64 s, .bool has, .int .u64 bl, .int .i64 f, .int .i64 h2, .int .i64 r2, .int .i64 s2, .bool has2, .int .u64 bl2, .int .i64 f2] 31)) = wA at *
  refine (seated_any la ca l wA hll hw (h1.below bA)).mono ?_
  rintro e w1 ⟨⟨v, x, rfl, hgd, hox⟩, b1⟩
  obtain ⟨xa, xc, rfl, hsx⟩ := SeatsAt.of_owns hox
  have hx7 := hgd.few
  have B1 := bA.trans (b1.mono bA.size)
  have kC1 := kC.below b1 kC.lt
  have kG1 := kG.below b1 kG.lt
  clear hox h1 hw b1 kC kG bA
  have D0 : ∀ w', Below w1.heap.size w1 w' → w'.cell? ⟨w.heap.size, 0, none⟩ = some (.int .i64 ch) := fun w' hb => ((kC1.below hb kC1.lt).cell 0).trans rfl
  have D1 : ∀ w', Below w1.heap.size w1 w' → w'.cell? ⟨w.heap.size, 1, none⟩ = some (.int .i64 cr) := fun w' hb => ((kC1.below hb kC1.lt).cell 1).trans rfl
  have D2 : ∀ w', Below w1.heap.size w1 w' → w'.cell? ⟨w.heap.size, 2, none⟩ = some (.int .i64 cs) := fun w' hb => ((kC1.below hb kC1.lt).cell 2).trans rfl
  have D3 : ∀ w', Below w1.heap.size w1 w' → w'.cell? ⟨w.heap.size, 3, none⟩ = some (.bool chas) := fun w' hb => ((kC1.below hb kC1.lt).cell 3).trans rfl
  have D4 : ∀ w', Below w1.heap.size w1 w' → w'.cell? ⟨w.heap.size, 4, none⟩ = some (.int .u64 cbl) := fun w' hb => ((kC1.below hb kC1.lt).cell 4).trans rfl
  have D5 : ∀ w', Below w1.heap.size w1 w' → w'.cell? ⟨w.heap.size, 5, none⟩ = some (.slice fa fr.length fc) := fun w' hb => ((kC1.below hb kC1.lt).cell 5).trans rfl
  have C0 : ∀ w', Below w1.heap.size w1 w' → w'.cell? ⟨w.heap.size + 1, 0, none⟩ = some (.int .i64 h) := fun w' hb => ((kG1.below hb kG1.lt).cell 0).trans rfl
  have C1 : ∀ w', Below w1.heap.size w1 w' → w'.cell? ⟨w.heap.size + 1, 1, none⟩ = some (.int .i64 r) := fun w' hb => ((kG1.below hb kG1.lt).cell 1).trans rfl
  have C2 : ∀ w', Below w1.heap.size w1 w' → w'.cell? ⟨w.heap.size + 1, 2, none⟩ = some (.int .i64 s) := fun w' hb => ((kG1.below hb kG1.lt).cell 2).trans rfl
  have C3 : ∀ w', Below w1.heap.size w1 w' → w'.cell? ⟨w.heap.size + 1, 3, none⟩ = some (.bool has) := fun w' hb => ((kG1.below hb kG1.lt).cell 3).trans rfl
  have C4 : ∀ w', Below w1.heap.size w1 w' → w'.cell? ⟨w.heap.size + 1, 4, none⟩ = some (.int .u64 bl) := fun w' hb => ((kG1.below hb kG1.lt).cell 4).trans rfl
  have C5 : ∀ w', Below w1.heap.size w1 w' → w'.cell? ⟨w.heap.size + 1, 5, none⟩ = some (.int .i64 f) := fun w' hb => ((kG1.below hb kG1.lt).cell 5).trans rfl
  have C6 : ∀ w', Below w1.heap.size w1 w' → w'.cell? ⟨w.heap.size + 1, 6, none⟩ = some (.int .i64 h2) := fun w' hb => ((kG1.below hb kG1.lt).cell 6).trans rfl
  have C7 : ∀ w', Below w1.heap.size w1 w' → w'.cell? ⟨w.heap.size + 1, 7, none⟩ = some (.int .i64 r2) := fun w' hb => ((kG1.below hb kG1.lt).cell 7).trans rfl
  have C8 : ∀ w', Below w1.heap.size w1 w' → w'.cell? ⟨w.heap.size + 1, 8, none⟩ = some (.int .i64 s2) := fun w' hb => ((kG1.below hb kG1.lt).cell 8).trans rfl
  have C9 : ∀ w', Below w1.heap.size w1 w' → w'.cell? ⟨w.heap.size + 1, 9, none⟩ = some (.bool has2) := fun w' hb => ((kG1.below hb kG1.lt).cell 9).trans rfl
  have C10 : ∀ w', Below w1.heap.size w1 w' → w'.cell? ⟨w.heap.size + 1, 10, none⟩ = some (.int .u64 bl2) := fun w' hb => ((kG1.below hb kG1.lt).cell 10).trans rfl
  have C11 : ∀ w', Below w1.heap.size w1 w' → w'.cell? ⟨w.heap.size + 1, 11, none⟩ = some (.int .i64 f2) := fun w' hb => ((kG1.below hb kG1.lt).cell 11).trans rfl
  have zC := kC1.lt
  have zG := kG1.lt
  have KP : ∀ w', Below w1.heap.size w1 w' → Calls Try.prog 5 #[.agg #[.int .i64 h, .int .i64 r, .int .i64 s, .bool has, .int .u64 bl, .int .i64 f, .int .i64 h2, .int .i64 r2, .int .i64 s2, .bool has2, .int .u64 bl2, .int .i64 f2]] w' fun e w'' => e = .returned (.bool (provP E h r s has bl f h2 r2 s2 has2 bl2 f2)) ∧ Below w'.heap.size w' w'' := fun w' _ => proves_any h r s has bl f h2 r2 s2 has2 bl2 f2 w' S E K1
  have KR : ∀ w', Below w1.heap.size w1 w' → Calls Try.prog 6 #[.agg #[.int .i64 h, .int .i64 r, .int .i64 s, .bool has, .int .u64 bl, .int .i64 f, .int .i64 h2, .int .i64 r2, .int .i64 s2, .bool has2, .int .u64 bl2, .int .i64 f2]] w' fun e w'' => e = .returned (.bool (provP E h r s has bl f h2 r2 s2 has2 bl2 f2)) ∧ Below w'.heap.size w' w'' := fun w' _ => rproves_any h r s has bl f h2 r2 s2 has2 bl2 f2 w' S E K2
  have KC : ∀ w', Below w1.heap.size w1 w' → Calls Try.prog 7 #[.slice xa x.length xc, .agg #[.int .i64 ch, .int .i64 cr, .int .i64 cs, .bool chas, .int .u64 cbl, .slice fa fr.length fc]] w' fun e w'' => e = .returned (.int .i64 (chkP F 17 18 x fr)) ∧ Below w'.heap.size w' w'' := fun w' hb => by
    have hB := B1.trans (hb.mono B1.size)
    exact check_any xa fa xc fc x fr ch cr cs chas cbl w' T F (by omega) hgd.w (hsx.below hb) (by omega) (hI.below hB) (fun y hy => K3 (by omega) y (hB.trans (hy.mono hB.size)))
  have KD : ∀ w', Below w1.heap.size w1 w' → Calls Try.prog 8 #[.slice xa x.length xc, .agg #[.int .i64 ch, .int .i64 cr, .int .i64 cs, .bool chas, .int .u64 cbl, .slice fa fr.length fc]] w' fun e w'' => e = .returned (.int .i64 (chkP F 17 18 x fr)) ∧ Below w'.heap.size w' w'' := fun w' hb => by
    have hB := B1.trans (hb.mono B1.size)
    exact rcheck_any xa fa xc fc x fr ch cr cs chas cbl w' T F (by omega) hgd.w (hsx.below hb) (by omega) (hI.below hB) (fun y hy => K4 (by omega) y (hB.trans (hy.mono hB.size)))
  generalize provP E h r s has bl f h2 r2 s2 has2 bl2 f2 = P at *
  generalize chkP F 17 18 x fr = Z at *
  have bw : Below w1.heap.size w1 w1 := Below.refl _ _
  clear K1 K2 K3 K4 kC1 kG1 hsx hI hgd
  go_upto_region 4 with fail
  go_region_held3 (fun w' => Below w1.heap.size w1 w') (repeat (first | exact bw.drew | exact hNext | assumption | refine Below.drew ?_ | exact bw | exact Nat.le_refl _))
    (first
    | (go_at_call 5
       refine (KP _ (by assumption)).mono ?_
       rintro e w3 ⟨rfl, b3⟩
       have hNext : Below w1.heap.size w1 w3 := Below.trans (by assumption) (b3.mono (Below.size (by assumption))))
    | (go_at_call 6
       refine (KR _ (by assumption)).mono ?_
       rintro e w3 ⟨rfl, b3⟩
       have hNext : Below w1.heap.size w1 w3 := Below.trans (by assumption) (b3.mono (Below.size (by assumption))))
    | (go_at_call 7
       refine (KC _ (by assumption)).mono ?_
       rintro e w3 ⟨rfl, b3⟩
       have hNext : Below w1.heap.size w1 w3 := Below.trans (by assumption) (b3.mono (Below.size (by assumption))))
    | (go_at_call 8
       refine (KD _ (by assumption)).mono ?_
       rintro e w3 ⟨rfl, b3⟩
       have hNext : Below w1.heap.size w1 w3 := Below.trans (by assumption) (b3.mono (Below.size (by assumption)))))
  all_goals
    go_wp2
    go_ret
    exact ⟨rfl, B1.trans (hNext.mono B1.size)⟩
end Go.Proofs.Ytomkiglagpfnoaa
