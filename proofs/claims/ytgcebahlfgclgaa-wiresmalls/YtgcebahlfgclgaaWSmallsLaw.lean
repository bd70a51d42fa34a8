/- WireSmalls: of every number, vote, pair of votes, bench, parcel, account, view and result Put of the program says what the answer says. No condition. -/
import Derived.Test.YtgcebahlfgclgaaRows
import Derived.Test.YtgcebahlfgclgaaWTop4
import Derived.Test.YtgcebahlfgclgaaWOpen
import Derived.WalkKit
import Derived.ProofKit
import Derived.OpenShut
import Derived.ShutString
import Derived.ChangeOld
import Derived.ChangeArms
import Derived.Below
import Derived.SizedLaws
import Derived.Deep.SlicePairs
namespace Go.Proofs.Ytgcebahlfgclgaa.wireSmalls
open Go.ChangeShapes Go.WideShapes Go.ChangeAt Go.RowKit
set_option linter.unusedVariables false
set_option linter.unusedSimpArgs false

theorem own : ownKnob Try.prog.godebug = none := by kernel_rfl
theorem laidOut : laidOutB Try.prog = true := by kernel_rfl

set_option maxRecDepth 20000 in
set_option maxHeartbeats 12800000 in
theorem walk (n : Int) (h : Int) (r : Int) (s : Int) (has : Bool) (bl : Int) (f : Int) (gh : Int) (gr : Int) (gs : Int) (ghas : Bool) (gbl : Int) (gf : Int) (gh2 : Int) (gr2 : Int) (gs2 : Int) (ghas2 : Bool) (gbl2 : Int) (gf2 : Int) (l1 : Option Addr) (c1 : Nat) (p1 : List (Int × Int)) (pk : Int) (pt : Int) (pa : Int) (ba : Int) (fo : Int) (no : Int) (bo : Int) (le : Int) (fr : Int) (ja : Bool) (c : Int) (wi : Int) (ep : Int) (vh : Int) (st : Int) (l2 : Option Addr) (c2 : Nat) (p2 : List (Int × Int)) (co : Int) (us : Int) (va : Int) (l3 : Option Addr) (c3 : Nat) (p3 : List (Int × Int)) (w : World) (bn : -9223372036854775808 ≤ n ∧ n ≤ 9223372036854775807) (bh : -9223372036854775808 ≤ h ∧ h ≤ 9223372036854775807) (br : -9223372036854775808 ≤ r ∧ r ≤ 9223372036854775807) (bs : -9223372036854775808 ≤ s ∧ s ≤ 9223372036854775807) (bbl : 0 ≤ bl ∧ bl ≤ 18446744073709551615) (bf : -9223372036854775808 ≤ f ∧ f ≤ 9223372036854775807) (bgh : -9223372036854775808 ≤ gh ∧ gh ≤ 9223372036854775807) (bgr : -9223372036854775808 ≤ gr ∧ gr ≤ 9223372036854775807) (bgs : -9223372036854775808 ≤ gs ∧ gs ≤ 9223372036854775807) (bgbl : 0 ≤ gbl ∧ gbl ≤ 18446744073709551615) (bgf : -9223372036854775808 ≤ gf ∧ gf ≤ 9223372036854775807) (bgh2 : -9223372036854775808 ≤ gh2 ∧ gh2 ≤ 9223372036854775807) (bgr2 : -9223372036854775808 ≤ gr2 ∧ gr2 ≤ 9223372036854775807) (bgs2 : -9223372036854775808 ≤ gs2 ∧ gs2 ≤ 9223372036854775807) (bgbl2 : 0 ≤ gbl2 ∧ gbl2 ≤ 18446744073709551615) (bgf2 : -9223372036854775808 ≤ gf2 ∧ gf2 ≤ 9223372036854775807) (bpk : -9223372036854775808 ≤ pk ∧ pk ≤ 9223372036854775807) (bpt : -9223372036854775808 ≤ pt ∧ pt ≤ 9223372036854775807) (bpa : -9223372036854775808 ≤ pa ∧ pa ≤ 9223372036854775807) (bba : -9223372036854775808 ≤ ba ∧ ba ≤ 9223372036854775807) (bfo : -9223372036854775808 ≤ fo ∧ fo ≤ 9223372036854775807) (bno : -9223372036854775808 ≤ no ∧ no ≤ 9223372036854775807) (bbo : -9223372036854775808 ≤ bo ∧ bo ≤ 9223372036854775807) (ble : -9223372036854775808 ≤ le ∧ le ≤ 9223372036854775807) (bfr : -9223372036854775808 ≤ fr ∧ fr ≤ 9223372036854775807) (bc : -9223372036854775808 ≤ c ∧ c ≤ 9223372036854775807) (bwi : -9223372036854775808 ≤ wi ∧ wi ≤ 9223372036854775807) (bep : -9223372036854775808 ≤ ep ∧ ep ≤ 9223372036854775807) (bvh : -9223372036854775808 ≤ vh ∧ vh ≤ 9223372036854775807) (bst : 0 ≤ st ∧ st ≤ 18446744073709551615) (bco : -9223372036854775808 ≤ co ∧ co ≤ 9223372036854775807) (bus : -9223372036854775808 ≤ us ∧ us ≤ 9223372036854775807) (bva : -9223372036854775808 ≤ va ∧ va ≤ 9223372036854775807) (hn1 : p1.length ≤ 140737488351232) (hc1 : p1.length ≤ c1) (hm1 : c1 ≤ maxLen) (hp1 : PairsAt w l1 p1) (hn2 : p2.length ≤ 140737488351232) (hc2 : p2.length ≤ c2) (hm2 : c2 ≤ maxLen) (hp2 : PairsAt w l2 p2) (hn3 : p3.length ≤ 140737488351232) (hc3 : p3.length ≤ c3) (hm3 : c3 ≤ maxLen) (hp3 : PairsAt w l3 p3) :
    Calls Try.prog 3 #[.int .i64 n, .agg #[.int .i64 h, .int .i64 r, .int .i64 s, .bool has, .int .u64 bl, .int .i64 f], .agg #[.int .i64 gh, .int .i64 gr, .int .i64 gs, .bool ghas, .int .u64 gbl, .int .i64 gf, .int .i64 gh2, .int .i64 gr2, .int .i64 gs2, .bool ghas2, .int .u64 gbl2, .int .i64 gf2], .slice l1 p1.length c1, .agg #[.int .i64 pk, .int .i64 pt, .int .i64 pa], .agg #[.int .i64 ba, .int .i64 fo, .int .i64 no, .int .i64 bo, .int .i64 le, .int .i64 fr, .bool ja], .agg #[.int .i64 c, .int .i64 wi, .int .i64 ep, .int .i64 vh, .int .u64 st, .slice l2 p2.length c2], .agg #[.int .i64 co, .int .i64 us, .int .i64 va, .slice l3 p3.length c3]] w fun e w' => e = .returned (.bool true) ∧ Below w.heap.size w w' := by
  have kV := (((((Blk.new w #[.int .i64 h, .int .i64 r, .int .i64 s, .bool has, .int .u64 bl, .int .i64 f] 25).alloc (.cells #[.int .i64 gh, .int .i64 gr, .int .i64 gs, .bool ghas, .int .u64 gbl, .int .i64 gf, .int .i64 gh2, .int .i64 gr2, .int .i64 gs2, .bool ghas2, .int .u64 gbl2, .int .i64 gf2] 27)).alloc (.cells #[.int .i64 pk, .int .i64 pt, .int .i64 pa] 30)).alloc (.cells #[.int .i64 ba, .int .i64 fo, .int .i64 no, .int .i64 bo, .int .i64 le, .int .i64 fr, .bool ja] 32)).alloc (.cells #[.int .i64 c, .int .i64 wi, .int .i64 ep, .int .i64 vh, .int .u64 st, .slice l2 p2.length c2] 34)).alloc (.cells #[.int .i64 co, .int .i64 us, .int .i64 va, .slice l3 p3.length c3] 38)
  have kG := ((((Blk.new (w.alloc (.cells #[.int .i64 h, .int .i64 r, .int .i64 s, .bool has, .int .u64 bl, .int .i64 f] 25)) #[.int .i64 gh, .int .i64 gr, .int .i64 gs, .bool ghas, .int .u64 gbl, .int .i64 gf, .int .i64 gh2, .int .i64 gr2, .int .i64 gs2, .bool ghas2, .int .u64 gbl2, .int .i64 gf2] 27).alloc (.cells #[.int .i64 pk, .int .i64 pt, .int .i64 pa] 30)).alloc (.cells #[.int .i64 ba, .int .i64 fo, .int .i64 no, .int .i64 bo, .int .i64 le, .int .i64 fr, .bool ja] 32)).alloc (.cells #[.int .i64 c, .int .i64 wi, .int .i64 ep, .int .i64 vh, .int .u64 st, .slice l2 p2.length c2] 34)).alloc (.cells #[.int .i64 co, .int .i64 us, .int .i64 va, .slice l3 p3.length c3] 38)
  have kP := (((Blk.new ((w.alloc (.cells #[.int .i64 h, .int .i64 r, .int .i64 s, .bool has, .int .u64 bl, .int .i64 f] 25)).alloc (.cells #[.int .i64 gh, .int .i64 gr, .int .i64 gs, .bool ghas, .int .u64 gbl, .int .i64 gf, .int .i64 gh2, .int .i64 gr2, .int .i64 gs2, .bool ghas2, .int .u64 gbl2, .int .i64 gf2] 27)) #[.int .i64 pk, .int .i64 pt, .int .i64 pa] 30).alloc (.cells #[.int .i64 ba, .int .i64 fo, .int .i64 no, .int .i64 bo, .int .i64 le, .int .i64 fr, .bool ja] 32)).alloc (.cells #[.int .i64 c, .int .i64 wi, .int .i64 ep, .int .i64 vh, .int .u64 st, .slice l2 p2.length c2] 34)).alloc (.cells #[.int .i64 co, .int .i64 us, .int .i64 va, .slice l3 p3.length c3] 38)
  have kA := ((Blk.new (((w.alloc (.cells #[.int .i64 h, .int .i64 r, .int .i64 s, .bool has, .int .u64 bl, .int .i64 f] 25)).alloc (.cells #[.int .i64 gh, .int .i64 gr, .int .i64 gs, .bool ghas, .int .u64 gbl, .int .i64 gf, .int .i64 gh2, .int .i64 gr2, .int .i64 gs2, .bool ghas2, .int .u64 gbl2, .int .i64 gf2] 27)).alloc (.cells #[.int .i64 pk, .int .i64 pt, .int .i64 pa] 30)) #[.int .i64 ba, .int .i64 fo, .int .i64 no, .int .i64 bo, .int .i64 le, .int .i64 fr, .bool ja] 32).alloc (.cells #[.int .i64 c, .int .i64 wi, .int .i64 ep, .int .i64 vh, .int .u64 st, .slice l2 p2.length c2] 34)).alloc (.cells #[.int .i64 co, .int .i64 us, .int .i64 va, .slice l3 p3.length c3] 38)
  have kW := (Blk.new ((((w.alloc (.cells #[.int .i64 h, .int .i64 r, .int .i64 s, .bool has, .int .u64 bl, .int .i64 f] 25)).alloc (.cells #[.int .i64 gh, .int .i64 gr, .int .i64 gs, .bool ghas, .int .u64 gbl, .int .i64 gf, .int .i64 gh2, .int .i64 gr2, .int .i64 gs2, .bool ghas2, .int .u64 gbl2, .int .i64 gf2] 27)).alloc (.cells #[.int .i64 pk, .int .i64 pt, .int .i64 pa] 30)).alloc (.cells #[.int .i64 ba, .int .i64 fo, .int .i64 no, .int .i64 bo, .int .i64 le, .int .i64 fr, .bool ja] 32)) #[.int .i64 c, .int .i64 wi, .int .i64 ep, .int .i64 vh, .int .u64 st, .slice l2 p2.length c2] 34).alloc (.cells #[.int .i64 co, .int .i64 us, .int .i64 va, .slice l3 p3.length c3] 38)
  have kR := Blk.new (((((w.alloc (.cells #[.int .i64 h, .int .i64 r, .int .i64 s, .bool has, .int .u64 bl, .int .i64 f] 25)).alloc (.cells #[.int .i64 gh, .int .i64 gr, .int .i64 gs, .bool ghas, .int .u64 gbl, .int .i64 gf, .int .i64 gh2, .int .i64 gr2, .int .i64 gs2, .bool ghas2, .int .u64 gbl2, .int .i64 gf2] 27)).alloc (.cells #[.int .i64 pk, .int .i64 pt, .int .i64 pa] 30)).alloc (.cells #[.int .i64 ba, .int .i64 fo, .int .i64 no, .int .i64 bo, .int .i64 le, .int .i64 fr, .bool ja] 32)).alloc (.cells #[.int .i64 c, .int .i64 wi, .int .i64 ep, .int .i64 vh, .int .u64 st, .slice l2 p2.length c2] 34)) #[.int .i64 co, .int .i64 us, .int .i64 va, .slice l3 p3.length c3] 38
  have bw : Below w.heap.size w ((((((w.alloc (.cells #[.int .i64 h, .int .i64 r, .int .i64 s, .bool has, .int .u64 bl, .int .i64 f] 25)).alloc (.cells #[.int .i64 gh, .int .i64 gr, .int .i64 gs, .bool ghas, .int .u64 gbl, .int .i64 gf, .int .i64 gh2, .int .i64 gr2, .int .i64 gs2, .bool ghas2, .int .u64 gbl2, .int .i64 gf2] 27)).alloc (.cells #[.int .i64 pk, .int .i64 pt, .int .i64 pa] 30)).alloc (.cells #[.int .i64 ba, .int .i64 fo, .int .i64 no, .int .i64 bo, .int .i64 le, .int .i64 fr, .bool ja] 32)).alloc (.cells #[.int .i64 c, .int .i64 wi, .int .i64 ep, .int .i64 vh, .int .u64 st, .slice l2 p2.length c2] 34)).alloc (.cells #[.int .i64 co, .int .i64 us, .int .i64 va, .slice l3 p3.length c3] 38)) := (((((((Below.refl w.heap.size w).alloc (by first | exact Nat.le_refl _ | (simp only [World.size_alloc]; omega)) (.cells #[.int .i64 h, .int .i64 r, .int .i64 s, .bool has, .int .u64 bl, .int .i64 f] 25)).alloc (by first | exact Nat.le_refl _ | (simp only [World.size_alloc]; omega)) (.cells #[.int .i64 gh, .int .i64 gr, .int .i64 gs, .bool ghas, .int .u64 gbl, .int .i64 gf, .int .i64 gh2, .int .i64 gr2, .int .i64 gs2, .bool ghas2, .int .u64 gbl2, .int .i64 gf2] 27)).alloc (by first | exact Nat.le_refl _ | (simp only [World.size_alloc]; omega)) (.cells #[.int .i64 pk, .int .i64 pt, .int .i64 pa] 30)).alloc (by first | exact Nat.le_refl _ | (simp only [World.size_alloc]; omega)) (.cells #[.int .i64 ba, .int .i64 fo, .int .i64 no, .int .i64 bo, .int .i64 le, .int .i64 fr, .bool ja] 32)).alloc (by first | exact Nat.le_refl _ | (simp only [World.size_alloc]; omega)) (.cells #[.int .i64 c, .int .i64 wi, .int .i64 ep, .int .i64 vh, .int .u64 st, .slice l2 p2.length c2] 34)).alloc (by first | exact Nat.le_refl _ | (simp only [World.size_alloc]; omega)) (.cells #[.int .i64 co, .int .i64 us, .int .i64 va, .slice l3 p3.length c3] 38))
  simp only [World.size_alloc, Nat.add_assoc, Nat.reduceAdd] at kG kP kA kW kR
  by_cases hbig : (65536 : Int) < (p1.length : Int) + (p2.length : Int) + (p3.length : Int)
  · go_enter Try.func3, Try.ntmps3
    go_wp2
    go_ret
    exact ⟨rfl, bw⟩
  · have hs1 : p1.length ≤ 65536 := by omega
    have hs2 : p2.length ≤ 65536 := by omega
    have hs3 : p3.length ≤ 65536 := by omega
    obtain ⟨S0, E0, cw0, cr0⟩ : ∃ (S : ByteArray) (E : Int), (∀ x : World, Calls Try.prog 6 #[.int .i64 n] x fun e w' => e = .returned (.tuple #[.string S, .int .i64 E]) ∧ Below x.heap.size x w') ∧ (∀ x : World, Calls Try.prog 7 #[.int .i64 n] x fun e w' => e = .returned (.tuple #[.string S, .int .i64 E]) ∧ Below x.heap.size x w') :=
      ⟨_, _, fun x => wputNumber_any n x bn, fun x => rputNumber_any n x bn⟩
    obtain ⟨S1, E1, cw1, cr1⟩ : ∃ (S : ByteArray) (E : Int), (∀ x : World, Calls Try.prog 8 #[.agg #[.int .i64 h, .int .i64 r, .int .i64 s, .bool has, .int .u64 bl, .int .i64 f]] x fun e w' => e = .returned (.tuple #[.string S, .int .i64 E]) ∧ Below x.heap.size x w') ∧ (∀ x : World, Calls Try.prog 9 #[.agg #[.int .i64 h, .int .i64 r, .int .i64 s, .bool has, .int .u64 bl, .int .i64 f]] x fun e w' => e = .returned (.tuple #[.string S, .int .i64 E]) ∧ Below x.heap.size x w') :=
      ⟨_, _, fun x => wputVote_any h r s has bl f x bh br bs bbl bf, fun x => rputVote_any h r s has bl f x bh br bs bbl bf⟩
    obtain ⟨S2, E2, cw2, cr2⟩ : ∃ (S : ByteArray) (E : Int), (∀ x : World, Calls Try.prog 10 #[.agg #[.int .i64 gh, .int .i64 gr, .int .i64 gs, .bool ghas, .int .u64 gbl, .int .i64 gf, .int .i64 gh2, .int .i64 gr2, .int .i64 gs2, .bool ghas2, .int .u64 gbl2, .int .i64 gf2]] x fun e w' => e = .returned (.tuple #[.string S, .int .i64 E]) ∧ Below x.heap.size x w') ∧ (∀ x : World, Calls Try.prog 11 #[.agg #[.int .i64 gh, .int .i64 gr, .int .i64 gs, .bool ghas, .int .u64 gbl, .int .i64 gf, .int .i64 gh2, .int .i64 gr2, .int .i64 gs2, .bool ghas2, .int .u64 gbl2, .int .i64 gf2]] x fun e w' => e = .returned (.tuple #[.string S, .int .i64 E]) ∧ Below x.heap.size x w') :=
      ⟨_, _, fun x => wputGuilt_any gh gr gs ghas gbl gf gh2 gr2 gs2 ghas2 gbl2 gf2 x bgh bgr bgs bgbl bgf bgh2 bgr2 bgs2 bgbl2 bgf2, fun x => rputGuilt_any gh gr gs ghas gbl gf gh2 gr2 gs2 ghas2 gbl2 gf2 x bgh bgr bgs bgbl bgf bgh2 bgr2 bgs2 bgbl2 bgf2⟩
    obtain ⟨S3, E3, cw3, cr3⟩ : ∃ (S : ByteArray) (E : Int), (∀ x : World, Below w.heap.size w x → Calls Try.prog 12 #[.slice l1 p1.length c1] x fun e w' => e = .returned (.tuple #[.string S, .int .i64 E]) ∧ Below x.heap.size x w') ∧ (∀ x : World, Below w.heap.size w x → Calls Try.prog 13 #[.slice l1 p1.length c1] x fun e w' => e = .returned (.tuple #[.string S, .int .i64 E]) ∧ Below x.heap.size x w') :=
      ⟨_, _, fun x hx => wputBench_any  l1 c1 p1 x  hs1 hc1 hm1 (hp1.below (B := 0) hx), fun x hx => rputBench_any  l1 c1 p1 x  hs1 hc1 hm1 (hp1.below (B := 0) hx)⟩
    obtain ⟨S4, E4, cw4, cr4⟩ : ∃ (S : ByteArray) (E : Int), (∀ x : World, Calls Try.prog 14 #[.agg #[.int .i64 pk, .int .i64 pt, .int .i64 pa]] x fun e w' => e = .returned (.tuple #[.string S, .int .i64 E]) ∧ Below x.heap.size x w') ∧ (∀ x : World, Calls Try.prog 15 #[.agg #[.int .i64 pk, .int .i64 pt, .int .i64 pa]] x fun e w' => e = .returned (.tuple #[.string S, .int .i64 E]) ∧ Below x.heap.size x w') :=
      ⟨_, _, fun x => wputParcel_any pk pt pa x bpk bpt bpa, fun x => rputParcel_any pk pt pa x bpk bpt bpa⟩
    obtain ⟨S5, E5, cw5, cr5⟩ : ∃ (S : ByteArray) (E : Int), (∀ x : World, Calls Try.prog 16 #[.agg #[.int .i64 ba, .int .i64 fo, .int .i64 no, .int .i64 bo, .int .i64 le, .int .i64 fr, .bool ja]] x fun e w' => e = .returned (.tuple #[.string S, .int .i64 E]) ∧ Below x.heap.size x w') ∧ (∀ x : World, Calls Try.prog 17 #[.agg #[.int .i64 ba, .int .i64 fo, .int .i64 no, .int .i64 bo, .int .i64 le, .int .i64 fr, .bool ja]] x fun e w' => e = .returned (.tuple #[.string S, .int .i64 E]) ∧ Below x.heap.size x w') :=
      ⟨_, _, fun x => wputAccount_any ba fo no bo le fr ja x bba bfo bno bbo ble bfr, fun x => rputAccount_any ba fo no bo le fr ja x bba bfo bno bbo ble bfr⟩
    obtain ⟨S6, E6, cw6, cr6⟩ : ∃ (S : ByteArray) (E : Int), (∀ x : World, Below w.heap.size w x → Calls Try.prog 18 #[.agg #[.int .i64 c, .int .i64 wi, .int .i64 ep, .int .i64 vh, .int .u64 st, .slice l2 p2.length c2]] x fun e w' => e = .returned (.tuple #[.string S, .int .i64 E]) ∧ Below x.heap.size x w') ∧ (∀ x : World, Below w.heap.size w x → Calls Try.prog 19 #[.agg #[.int .i64 c, .int .i64 wi, .int .i64 ep, .int .i64 vh, .int .u64 st, .slice l2 p2.length c2]] x fun e w' => e = .returned (.tuple #[.string S, .int .i64 E]) ∧ Below x.heap.size x w') :=
      ⟨_, _, fun x hx => wputView_any c wi ep vh st l2 c2 p2 x bc bwi bep bvh bst hs2 hc2 hm2 (hp2.below (B := 0) hx), fun x hx => rputView_any c wi ep vh st l2 c2 p2 x bc bwi bep bvh bst hs2 hc2 hm2 (hp2.below (B := 0) hx)⟩
    obtain ⟨S7, E7, cw7, cr7⟩ : ∃ (S : ByteArray) (E : Int), (∀ x : World, Below w.heap.size w x → Calls Try.prog 20 #[.agg #[.int .i64 co, .int .i64 us, .int .i64 va, .slice l3 p3.length c3]] x fun e w' => e = .returned (.tuple #[.string S, .int .i64 E]) ∧ Below x.heap.size x w') ∧ (∀ x : World, Below w.heap.size w x → Calls Try.prog 21 #[.agg #[.int .i64 co, .int .i64 us, .int .i64 va, .slice l3 p3.length c3]] x fun e w' => e = .returned (.tuple #[.string S, .int .i64 E]) ∧ Below x.heap.size x w') :=
      ⟨_, _, fun x hx => wputResult_any co us va l3 c3 p3 x bco bus bva hs3 hc3 hm3 (hp3.below (B := 0) hx), fun x hx => rputResult_any co us va l3 c3 p3 x bco bus bva hs3 hc3 hm3 (hp3.below (B := 0) hx)⟩
    clear bn bh br bs bbl bf bgh bgr bgs bgbl bgf bgh2 bgr2 bgs2 bgbl2 bgf2 bpk bpt bpa bba bfo bno bbo ble bfr bc bwi bep bvh bst bco bus bva
    go_enter Try.func3, Try.ntmps3
    go_wp2_with fail
    generalize hWA : ((((((w.alloc (.cells #[.int .i64 h, .int .i64 r, .int .i64 s, .bool has, .int .u64 bl, .int .i64 f] 25)).alloc (.cells #[.int .i64 gh, .int .i64 gr, .int .i64 gs, .bool ghas, .int .u64 gbl, .int .i64 gf, .int .i64 gh2, .int .i64 gr2, .int .i64 gs2, .bool ghas2, .int .u64 gbl2, .int .i64 gf2] 27)).alloc (.cells #[.int .i64 pk, .int .i64 pt, .int .i64 pa] 30)).alloc (.cells #[.int .i64 ba, .int .i64 fo, .int .i64 no, .int .i64 bo, .int .i64 le, .int .i64 fr, .bool ja] 32)).alloc (.cells #[.int .i64 c, .int .i64 wi, .int .i64 ep, .int .i64 vh, .int .u64 st, .slice l2 p2.length c2] 34)).alloc (.cells #[.int .i64 co, .int .i64 us, .int .i64 va, .slice l3 p3.length c3] 38)) = wA at *
    have B0 : Below wA.heap.size wA wA := Below.refl _ _
    clear hWA
    refine (cw0 _).mono ?_
    rintro e w1 ⟨rfl, b1⟩
    have B1 := B0.trans (b1.mono B0.size)
    go_wp2_with fail
    refine (cr0 _).mono ?_
    rintro e w2 ⟨rfl, b2⟩
    have B2 := B1.trans (b2.mono B1.size)
    have T := kV.below B2 kV.lt
    have q0 := T.cell 0
    have q1 := T.cell 1
    have q2 := T.cell 2
    have q3 := T.cell 3
    have q4 := T.cell 4
    have q5 := T.cell 5
    simp only [List.getElem?_toArray, List.getElem?_cons_succ, List.getElem?_cons_zero] at q0 q1 q2 q3 q4 q5
    have hz := T.lt
    clear T
    go_wp2_with fail
    refine (cw1 _).mono ?_
    rintro e w3 ⟨rfl, b3⟩
    have B3 := B2.trans (b3.mono B2.size)
    clear q0 q1 q2 q3 q4 q5 hz
    have T := kV.below B3 kV.lt
    have q0 := T.cell 0
    have q1 := T.cell 1
    have q2 := T.cell 2
    have q3 := T.cell 3
    have q4 := T.cell 4
    have q5 := T.cell 5
    simp only [List.getElem?_toArray, List.getElem?_cons_succ, List.getElem?_cons_zero] at q0 q1 q2 q3 q4 q5
    have hz := T.lt
    clear T
    go_wp2_with fail
    refine (cr1 _).mono ?_
    rintro e w4 ⟨rfl, b4⟩
    have B4 := B3.trans (b4.mono B3.size)
    clear q0 q1 q2 q3 q4 q5 hz
    have T := kG.below B4 kG.lt
    have q0 := T.cell 0
    have q1 := T.cell 1
    have q2 := T.cell 2
    have q3 := T.cell 3
    have q4 := T.cell 4
    have q5 := T.cell 5
    have q6 := T.cell 6
    have q7 := T.cell 7
    have q8 := T.cell 8
    have q9 := T.cell 9
    have q10 := T.cell 10
    have q11 := T.cell 11
    simp only [List.getElem?_toArray, List.getElem?_cons_succ, List.getElem?_cons_zero] at q0 q1 q2 q3 q4 q5 q6 q7 q8 q9 q10 q11
    have hz := T.lt
    clear T
    go_wp2_with fail
    refine (cw2 _).mono ?_
    rintro e w5 ⟨rfl, b5⟩
    have B5 := B4.trans (b5.mono B4.size)
    clear q0 q1 q2 q3 q4 q5 q6 q7 q8 q9 q10 q11 hz
    have T := kG.below B5 kG.lt
    have q0 := T.cell 0
    have q1 := T.cell 1
    have q2 := T.cell 2
    have q3 := T.cell 3
    have q4 := T.cell 4
    have q5 := T.cell 5
    have q6 := T.cell 6
    have q7 := T.cell 7
    have q8 := T.cell 8
    have q9 := T.cell 9
    have q10 := T.cell 10
    have q11 := T.cell 11
    simp only [List.getElem?_toArray, List.getElem?_cons_succ, List.getElem?_cons_zero] at q0 q1 q2 q3 q4 q5 q6 q7 q8 q9 q10 q11
    have hz := T.lt
    clear T
    go_wp2_with fail
    refine (cr2 _).mono ?_
    rintro e w6 ⟨rfl, b6⟩
    have B6 := B5.trans (b6.mono B5.size)
    clear q0 q1 q2 q3 q4 q5 q6 q7 q8 q9 q10 q11 hz
    go_wp2_with fail
    refine (cw3 _ (bw.trans (B6.mono bw.size))).mono ?_
    rintro e w7 ⟨rfl, b7⟩
    have B7 := B6.trans (b7.mono B6.size)
    go_wp2_with fail
    refine (cr3 _ (bw.trans (B7.mono bw.size))).mono ?_
    rintro e w8 ⟨rfl, b8⟩
    have B8 := B7.trans (b8.mono B7.size)
    have T := kP.below B8 kP.lt
    have q0 := T.cell 0
    have q1 := T.cell 1
    have q2 := T.cell 2
    simp only [List.getElem?_toArray, List.getElem?_cons_succ, List.getElem?_cons_zero] at q0 q1 q2
    have hz := T.lt
    clear T
    go_wp2_with fail
    refine (cw4 _).mono ?_
    rintro e w9 ⟨rfl, b9⟩
    have B9 := B8.trans (b9.mono B8.size)
    clear q0 q1 q2 hz
    have T := kP.below B9 kP.lt
    have q0 := T.cell 0
    have q1 := T.cell 1
    have q2 := T.cell 2
    simp only [List.getElem?_toArray, List.getElem?_cons_succ, List.getElem?_cons_zero] at q0 q1 q2
    have hz := T.lt
    clear T
    go_wp2_with fail
    refine (cr4 _).mono ?_
    rintro e w10 ⟨rfl, b10⟩
    have B10 := B9.trans (b10.mono B9.size)
    clear q0 q1 q2 hz
    have T := kA.below B10 kA.lt
    have q0 := T.cell 0
    have q1 := T.cell 1
    have q2 := T.cell 2
    have q3 := T.cell 3
    have q4 := T.cell 4
    have q5 := T.cell 5
    have q6 := T.cell 6
    simp only [List.getElem?_toArray, List.getElem?_cons_succ, List.getElem?_cons_zero] at q0 q1 q2 q3 q4 q5 q6
    have hz := T.lt
    clear T
    go_wp2_with fail
    refine (cw5 _).mono ?_
    rintro e w11 ⟨rfl, b11⟩
    have B11 := B10.trans (b11.mono B10.size)
    clear q0 q1 q2 q3 q4 q5 q6 hz
    have T := kA.below B11 kA.lt
    have q0 := T.cell 0
    have q1 := T.cell 1
    have q2 := T.cell 2
    have q3 := T.cell 3
    have q4 := T.cell 4
    have q5 := T.cell 5
    have q6 := T.cell 6
    simp only [List.getElem?_toArray, List.getElem?_cons_succ, List.getElem?_cons_zero] at q0 q1 q2 q3 q4 q5 q6
    have hz := T.lt
    clear T
    go_wp2_with fail
    refine (cr5 _).mono ?_
    rintro e w12 ⟨rfl, b12⟩
    have B12 := B11.trans (b12.mono B11.size)
    clear q0 q1 q2 q3 q4 q5 q6 hz
    have T := kW.below B12 kW.lt
    have q0 := T.cell 0
    have q1 := T.cell 1
    have q2 := T.cell 2
    have q3 := T.cell 3
    have q4 := T.cell 4
    have q5 := T.cell 5
    simp only [List.getElem?_toArray, List.getElem?_cons_succ, List.getElem?_cons_zero] at q0 q1 q2 q3 q4 q5
    have hz := T.lt
    clear T
    go_wp2_with fail
    refine (cw6 _ (bw.trans (B12.mono bw.size))).mono ?_
    rintro e w13 ⟨rfl, b13⟩
    have B13 := B12.trans (b13.mono B12.size)
    clear q0 q1 q2 q3 q4 q5 hz
    have T := kW.below B13 kW.lt
    have q0 := T.cell 0
    have q1 := T.cell 1
    have q2 := T.cell 2
    have q3 := T.cell 3
    have q4 := T.cell 4
    have q5 := T.cell 5
    simp only [List.getElem?_toArray, List.getElem?_cons_succ, List.getElem?_cons_zero] at q0 q1 q2 q3 q4 q5
    have hz := T.lt
    clear T
    go_wp2_with fail
    refine (cr6 _ (bw.trans (B13.mono bw.size))).mono ?_
    rintro e w14 ⟨rfl, b14⟩
    have B14 := B13.trans (b14.mono B13.size)
    clear q0 q1 q2 q3 q4 q5 hz
    have T := kR.below B14 kR.lt
    have q0 := T.cell 0
    have q1 := T.cell 1
    have q2 := T.cell 2
    have q3 := T.cell 3
    simp only [List.getElem?_toArray, List.getElem?_cons_succ, List.getElem?_cons_zero] at q0 q1 q2 q3
    have hz := T.lt
    clear T
    go_wp2_with fail
    refine (cw7 _ (bw.trans (B14.mono bw.size))).mono ?_
    rintro e w15 ⟨rfl, b15⟩
    have B15 := B14.trans (b15.mono B14.size)
    clear q0 q1 q2 q3 hz
    have T := kR.below B15 kR.lt
    have q0 := T.cell 0
    have q1 := T.cell 1
    have q2 := T.cell 2
    have q3 := T.cell 3
    simp only [List.getElem?_toArray, List.getElem?_cons_succ, List.getElem?_cons_zero] at q0 q1 q2 q3
    have hz := T.lt
    clear T
    go_wp2_with fail
    refine (cr7 _ (bw.trans (B15.mono bw.size))).mono ?_
    rintro e w16 ⟨rfl, b16⟩
    have B16 := B15.trans (b16.mono B15.size)
    clear q0 q1 q2 q3 hz
    go_wp2
    go_ret
    exact ⟨by simp, bw.trans (B16.mono bw.size)⟩

theorem Try.bytesSe : Try.prog.bytesOf 160 = 16 := by kernel_rfl
theorem Try.bytesNo : Try.prog.bytesOf 174 = 16 := by kernel_rfl

set_option maxRecDepth 100000 in
set_option maxHeartbeats 8000000 in
theorem lifted (os : Os) (started : os.Started) (H : Type) (enc : TypeId × Value → H) :
    ReturnsInHanded {} Try.checked os 3 .any (Rows.wireSmallsSpec.pre6 enc Try.prog Try.f3 Rows.wireSmallsRow.domain false) (Rows.wireSmallsSpec.post enc Try.prog Try.f3 false true false false) := by
  refine returnsInHanded_of_change_sized (C := Try.checked) own started (by kernel_rfl) Try.func3
    (ChangeSpec.witness6 (enc := enc) (C := Try.checked) false ⟨#[], #[.int .i64 0, .agg #[.int .i64 0, .int .i64 0, .int .i64 0, .bool false, .int .u64 0, .int .i64 0], .agg #[.int .i64 0, .int .i64 0, .int .i64 0, .bool false, .int .u64 0, .int .i64 0, .int .i64 0, .int .i64 0, .int .i64 0, .bool false, .int .u64 0, .int .i64 0], .slice none 0 0, .agg #[.int .i64 0, .int .i64 0, .int .i64 0], .agg #[.int .i64 0, .int .i64 0, .int .i64 0, .int .i64 0, .int .i64 0, .int .i64 0, .bool false], .agg #[.int .i64 0, .int .i64 0, .int .i64 0, .int .i64 0, .int .u64 0, .slice none 0 0], .agg #[.int .i64 0, .int .i64 0, .int .i64 0, .slice none 0 0]], []⟩ 8 (by kernel_rfl) (by kernel_rfl) (by kernel_rfl) (by kernel_rfl)) ?_
  intro W base args ds gs before hval0 hW hcnd hsz0 _
  have hval : ∀ (j : Nat) t v, Try.f3.params[j]? = some t → args[j]? = some v → Value.okWide Try.prog W .any base t v := hval0
  have hsz : (DataW.weightsEach Try.prog (Try.f3.params.toList ++ Rows.wireSmallsSpec.plain.varTypes Try.prog) (ds ++ gs)).all (· ≤ reachBytes) = true := hsz0
  have hW' := hW
  obtain ⟨p, q, hA0, hV, rfl, hfz, hnd⟩ := hW
  have hA : DataW.TrodAll enc Try.prog W 0 (fun _ => true) true Try.f3.params.toList args.toList ds p := hA0
  rw [Try.params3] at hA hval hsz
  obtain ⟨v0, vs0, d0, ds0, pp0, qq0, hargs, rfl, rfl, h0, r0⟩ := trodAll_cons hA
  obtain ⟨v1, vs1, d1, ds1, pp1, qq1, rfl, rfl, rfl, h1, r1⟩ := trodAll_cons r0
  obtain ⟨v2, vs2, d2, ds2, pp2, qq2, rfl, rfl, rfl, h2, r2⟩ := trodAll_cons r1
  obtain ⟨v3, vs3, d3, ds3, pp3, qq3, rfl, rfl, rfl, h3, r3⟩ := trodAll_cons r2
  obtain ⟨v4, vs4, d4, ds4, pp4, qq4, rfl, rfl, rfl, h4, r4⟩ := trodAll_cons r3
  obtain ⟨v5, vs5, d5, ds5, pp5, qq5, rfl, rfl, rfl, h5, r5⟩ := trodAll_cons r4
  obtain ⟨v6, vs6, d6, ds6, pp6, qq6, rfl, rfl, rfl, h6, r6⟩ := trodAll_cons r5
  obtain ⟨v7, vs7, d7, ds7, pp7, qq7, rfl, rfl, rfl, h7, r7⟩ := trodAll_cons r6
  obtain ⟨rfl, rfl, rfl⟩ := trodAll_nil r7
  obtain rfl : args = #[v0, v1, v2, v3, v4, v5, v6, v7] := by cases args; simp_all
  obtain ⟨rfl, rfl⟩ := trodVars_none hV
  obtain ⟨n, rfl, rfl, rfl, w0⟩ := open_int Try.underlying3 (hval 0 3 v0 rfl rfl) h0
  have k1 := h1
  have lt1 : ∀ x ∈ pp1, x.block < W.heap.size := by obtain ⟨m, hm⟩ := k1; exact DataW.trod_lt m _ _ _ hm
  obtain ⟨fu1, hf1⟩ := h1
  have k2 := h2
  have lt2 : ∀ x ∈ pp2, x.block < W.heap.size := by obtain ⟨m, hm⟩ := k2; exact DataW.trod_lt m _ _ _ hm
  obtain ⟨fu2, hf2⟩ := h2
  have k3 := h3
  have lt3 : ∀ x ∈ pp3, x.block < W.heap.size := by obtain ⟨m, hm⟩ := k3; exact DataW.trod_lt m _ _ _ hm
  obtain ⟨fu3, hf3⟩ := h3
  have k4 := h4
  have lt4 : ∀ x ∈ pp4, x.block < W.heap.size := by obtain ⟨m, hm⟩ := k4; exact DataW.trod_lt m _ _ _ hm
  obtain ⟨fu4, hf4⟩ := h4
  have k5 := h5
  have lt5 : ∀ x ∈ pp5, x.block < W.heap.size := by obtain ⟨m, hm⟩ := k5; exact DataW.trod_lt m _ _ _ hm
  obtain ⟨fu5, hf5⟩ := h5
  have k6 := h6
  have lt6 : ∀ x ∈ pp6, x.block < W.heap.size := by obtain ⟨m, hm⟩ := k6; exact DataW.trod_lt m _ _ _ hm
  obtain ⟨fu6, hf6⟩ := h6
  have k7 := h7
  have lt7 : ∀ x ∈ pp7, x.block < W.heap.size := by obtain ⟨m, hm⟩ := k7; exact DataW.trod_lt m _ _ _ hm
  obtain ⟨fu7, hf7⟩ := h7
  obtain ⟨cs1, rfl, hcs1⟩ := okWide_struct Try.underlying25 (hval 1 25 v1 rfl rfl)
  rw [Try.cellsV] at hcs1
  obtain ⟨x1_0, x1_1, x1_2, x1_3, x1_4, x1_5, rfl⟩ := arr6 cs1 hcs1
  have g1 : DataW.trod enc Try.prog W 0 (fun _ => true) true fu1 25 [x1_0, x1_1, x1_2, x1_3, x1_4, x1_5] = some (d1, pp1) := hf1
  obtain ⟨h, r, s, has, bl, f, e1, bh, br, bs, bbl, bf⟩ := open_vote g1
  simp only [List.cons.injEq, and_true] at e1
  obtain ⟨rfl, rfl, rfl, rfl, rfl, rfl⟩ := e1
  obtain ⟨cs2, rfl, hcs2⟩ := okWide_struct Try.underlying27 (hval 2 27 v2 rfl rfl)
  rw [Try.cellsG] at hcs2
  obtain ⟨x2_0, x2_1, x2_2, x2_3, x2_4, x2_5, x2_6, x2_7, x2_8, x2_9, x2_10, x2_11, rfl⟩ := arr12 cs2 hcs2
  obtain ⟨ys2, m2, _, _, _, hlen2, hfs2⟩ := DataW.trod_struct Try.underlying27 hf2
  obtain ⟨y20, y21, rfl⟩ := lst2 ys2 (by simpa using hlen2)
  have g20 := hfs2 0 _ rfl
  have g21 := hfs2 1 _ rfl
  simp [Try.cellsV, Value.cells] at g20 g21
  obtain ⟨gh, gr, gs, ghas, gbl, gf, e2, bgh, bgr, bgs, bgbl, bgf⟩ := open_vote g20
  obtain ⟨gh2, gr2, gs2, ghas2, gbl2, gf2, e3, bgh2, bgr2, bgs2, bgbl2, bgf2⟩ := open_vote g21
  simp only [List.cons.injEq, and_true] at e2
  obtain ⟨rfl, rfl, rfl, rfl, rfl, rfl⟩ := e2
  simp only [List.cons.injEq, and_true] at e3
  obtain ⟨rfl, rfl, rfl, rfl, rfl, rfl⟩ := e3
  obtain ⟨l1, c1', lc1, rfl⟩ := okWide_slice Try.underlying28 (hval 3 28 v3 rfl rfl)
  obtain ⟨l1', c1, p1, e4, hc1, hm1, hp1, hx1⟩ := open_pairs (f0 := _) (f1 := _) Try.underlying28 Try.underlying160 Try.cellsS rfl rfl rfl rfl hf3
  simp only [Value.cells, List.cons.injEq, and_true, Value.slice.injEq] at e4
  obtain ⟨rfl, rfl, rfl⟩ := e4
  obtain ⟨cs4, rfl, hcs4⟩ := okWide_struct Try.underlying30 (hval 4 30 v4 rfl rfl)
  rw [Try.cellsP] at hcs4
  obtain ⟨x4_0, x4_1, x4_2, rfl⟩ := arr3 cs4 hcs4
  have g4 : DataW.trod enc Try.prog W 0 (fun _ => true) true fu4 30 [x4_0, x4_1, x4_2] = some (d4, pp4) := hf4
  obtain ⟨pk, pt, pa, e5, bpk, bpt, bpa⟩ := open_parcel g4
  simp only [List.cons.injEq, and_true] at e5
  obtain ⟨rfl, rfl, rfl⟩ := e5
  obtain ⟨cs5, rfl, hcs5⟩ := okWide_struct Try.underlying32 (hval 5 32 v5 rfl rfl)
  rw [Try.cellsA] at hcs5
  obtain ⟨x5_0, x5_1, x5_2, x5_3, x5_4, x5_5, x5_6, rfl⟩ := arr7 cs5 hcs5
  have g5 : DataW.trod enc Try.prog W 0 (fun _ => true) true fu5 32 [x5_0, x5_1, x5_2, x5_3, x5_4, x5_5, x5_6] = some (d5, pp5) := hf5
  obtain ⟨ba, fo, no, bo, le, fr, ja, e6, bba, bfo, bno, bbo, ble, bfr⟩ := open_account g5
  simp only [List.cons.injEq, and_true] at e6
  obtain ⟨rfl, rfl, rfl, rfl, rfl, rfl, rfl⟩ := e6
  obtain ⟨cs6, rfl, hcs6⟩ := okWide_struct Try.underlying34 (hval 6 34 v6 rfl rfl)
  rw [Try.cellsW] at hcs6
  obtain ⟨x6_0, x6_1, x6_2, x6_3, x6_4, x6_5, rfl⟩ := arr6 cs6 hcs6
  obtain ⟨ys6, m6, _, hx6, _, hlen6, hfs6⟩ := DataW.trod_struct Try.underlying34 hf6
  obtain ⟨y60, y61, y62, y63, y64, y65, rfl⟩ := lst6 ys6 (by simpa using hlen6)
  have g60 := hfs6 0 _ rfl
  have g61 := hfs6 1 _ rfl
  have g62 := hfs6 2 _ rfl
  have g63 := hfs6 3 _ rfl
  have g64 := hfs6 4 _ rfl
  have g65 := hfs6 5 _ rfl
  simp [Try.cellsI, Value.cells] at g60 g61 g62 g63
  simp [Try.cellsD, Value.cells] at g64
  simp [Try.cellsSs, Value.cells] at g65
  obtain ⟨c, ee0, _, zz0⟩ := DataW.trod_int Try.underlying3 g60
  obtain ⟨wi, ee1, _, zz1⟩ := DataW.trod_int Try.underlying3 g61
  obtain ⟨ep, ee2, _, zz2⟩ := DataW.trod_int Try.underlying3 g62
  obtain ⟨vh, ee3, _, zz3⟩ := DataW.trod_int Try.underlying3 g63
  obtain ⟨st, ee4, _, zz4⟩ := DataW.trod_int Try.underlying23 g64
  obtain ⟨l2, c2, p2, ee5, hc2, hm2, hp2, hx2⟩ := open_pairs (f0 := _) (f1 := _) Try.underlying28 Try.underlying160 Try.cellsS rfl rfl rfl rfl g65
  simp only [List.cons.injEq, and_true] at ee0 ee1 ee2 ee3 ee4 ee5
  subst ee0 ee1 ee2 ee3 ee4 ee5
  obtain ⟨cs7, rfl, hcs7⟩ := okWide_struct Try.underlying38 (hval 7 38 v7 rfl rfl)
  rw [Try.cellsR] at hcs7
  obtain ⟨x7_0, x7_1, x7_2, x7_3, rfl⟩ := arr4 cs7 hcs7
  obtain ⟨ys7, m7, _, hx7, _, hlen7, hfs7⟩ := DataW.trod_struct Try.underlying38 hf7
  obtain ⟨y70, y71, y72, y73, rfl⟩ := lst4 ys7 (by simpa using hlen7)
  have g70 := hfs7 0 _ rfl
  have g71 := hfs7 1 _ rfl
  have g72 := hfs7 2 _ rfl
  have g73 := hfs7 3 _ rfl
  simp [Try.cellsE, Value.cells] at g70
  simp [Try.cellsI, Value.cells] at g71 g72
  simp [Try.cellsNs, Value.cells] at g73
  obtain ⟨co, ff0, _, yy0⟩ := DataW.trod_int Try.underlying35 g70
  obtain ⟨us, ff1, _, yy1⟩ := DataW.trod_int Try.underlying3 g71
  obtain ⟨va, ff2, _, yy2⟩ := DataW.trod_int Try.underlying3 g72
  obtain ⟨l3, c3, p3, ff3, hc3, hm3, hp3, hx3⟩ := open_pairs (f0 := _) (f1 := _) Try.underlying36 Try.underlying174 Try.cellsN rfl rfl rfl rfl g73
  simp only [List.cons.injEq, and_true] at ff0 ff1 ff2 ff3
  subst ff0 ff1 ff2 ff3
  have hn1 : p1.length ≤ 140737488351232 := by
    rcases hx1 with ⟨h, _⟩ | ⟨el, sp', h, hl⟩
    · rw [h]; simp
    · have hx1' : d3 = .slice el sp' := h
      subst hx1'
      have hw := sized_slice hsz (j := 3) (t := 28) (e := 160) rfl rfl Try.underlying28
      rw [Try.bytesSe] at hw
      simp only [reachBytes] at hw
      omega
  have hn2 : p2.length ≤ 140737488351232 := by
    rcases hx2 with ⟨h, _⟩ | ⟨el, sp', h, hl⟩
    · rw [h]; simp
    · simp only [Prod.mk.injEq] at hx6
      obtain ⟨hd6, _⟩ := hx6
      have hmem : (el.length + sp'.length) * Try.prog.bytesOf 160 ∈ d6.weights Try.prog 34 := by
        rw [hd6]
        simp [DataW.weights, Try.underlying34, DataW.weightsEach, h, Try.underlying28]
      have hall := DataW.weights_mem_each (ts := [3, 25, 27, 28, 30, 32, 34, 38] ++ Rows.wireSmallsSpec.plain.varTypes Try.prog) (ds := [.lit (.int .i64 n), d1, d2, d3, d4, d5, d6, d7] ++ []) (j := 6) rfl rfl _ hmem
      have hw := of_decide_eq_true (List.all_eq_true.1 hsz _ hall)
      rw [Try.bytesSe] at hw
      simp only [reachBytes] at hw
      omega
  have hn3 : p3.length ≤ 140737488351232 := by
    rcases hx3 with ⟨h, _⟩ | ⟨el, sp', h, hl⟩
    · rw [h]; simp
    · simp only [Prod.mk.injEq] at hx7
      obtain ⟨hd7, _⟩ := hx7
      have hmem : (el.length + sp'.length) * Try.prog.bytesOf 174 ∈ d7.weights Try.prog 38 := by
        rw [hd7]
        simp [DataW.weights, Try.underlying38, DataW.weightsEach, h, Try.underlying36]
      have hall := DataW.weights_mem_each (ts := [3, 25, 27, 28, 30, 32, 34, 38] ++ Rows.wireSmallsSpec.plain.varTypes Try.prog) (ds := [.lit (.int .i64 n), d1, d2, d3, d4, d5, d6, d7] ++ []) (j := 7) rfl rfl _ hmem
      have hw := of_decide_eq_true (List.all_eq_true.1 hsz _ hall)
      rw [Try.bytesNo] at hw
      simp only [reachBytes] at hw
      omega
  clear hA0 hval0
  refine (walk n h r s has bl f gh gr gs ghas gbl gf gh2 gr2 gs2 ghas2 gbl2 gf2 l1 lc1 p1 pk pt pa ba fo no bo le fr ja c wi ep vh st l2 c2 p2 co us va l3 c3 p3 W (bounds_i64 w0) bh br bs bbl bf bgh bgr bgs bgbl bgf bgh2 bgr2 bgs2 bgbl2 bgf2 bpk bpt bpa bba bfo bno bbo ble bfr (bounds_i64 zz0) (bounds_i64 zz1) (bounds_i64 zz2) (bounds_i64 zz3) (bounds_u64 zz4) (bounds_i64 yy0) (bounds_i64 yy1) (bounds_i64 yy2) hn1 hc1 hm1 hp1 hn2 hc2 hm2 hp2 hn3 hc3 hm3 hp3).mono fun e W' ⟨he, bel⟩ => ?_
  subst he
  exact ⟨_, rfl, _, _, _, [], _, [], hW', trodAll_mk1 (shut_bool Try.underlying4 _), (trodAll_cons_mk (shut_int Try.underlying3 w0) (trodAll_cons_mk (Below.trod laidOut (by kernel_rfl) (of_decide_eq_true (by kernel_rfl)) k1 bel lt1) (trodAll_cons_mk (Below.trod laidOut (by kernel_rfl) (of_decide_eq_true (by kernel_rfl)) k2 bel lt2) (trodAll_cons_mk (Below.trod laidOut (by kernel_rfl) (of_decide_eq_true (by kernel_rfl)) k3 bel lt3) (trodAll_cons_mk (Below.trod laidOut (by kernel_rfl) (of_decide_eq_true (by kernel_rfl)) k4 bel lt4) (trodAll_cons_mk (Below.trod laidOut (by kernel_rfl) (of_decide_eq_true (by kernel_rfl)) k5 bel lt5) (trodAll_cons_mk (Below.trod laidOut (by kernel_rfl) (of_decide_eq_true (by kernel_rfl)) k6 bel lt6) (trodAll_cons_mk (Below.trod laidOut (by kernel_rfl) (of_decide_eq_true (by kernel_rfl)) k7 bel lt7) trodAll_mk0)))))))), rfl, bel.frame _, fun h => by cases h⟩

theorem over : Rows.wireSmallsRow.holds Try.pinned (OpenSpec.ofChange Rows.wireSmallsSpec) :=
  OpenClaim.holds_of_wide 3 Try.f3 rfl rfl rfl rfl rfl rfl rfl ⟨rfl, rfl, rfl, rfl, rfl⟩ rfl rfl rfl rfl rfl (by kernel_rfl) Try.func3 (by kernel_rfl)
    (of_decide_eq_true (by kernel_rfl)) (by unfold Func.isWrapper; first | (rw [if_pos (by decide +kernel)]; kernel_rfl) | (rw [if_neg (by decide +kernel)]; exact ⟨rfl, rfl⟩))
    (fun os started H enc _ => lifted os started H enc)

end Go.Proofs.Ytgcebahlfgclgaa.wireSmalls
namespace Go.Proofs.Ytgcebahlfgclgaa

/-- The statement. -/
theorem wireSmalls_holds : Rows.WireSmallsSaid := wireSmalls.over
end Go.Proofs.Ytgcebahlfgclgaa
