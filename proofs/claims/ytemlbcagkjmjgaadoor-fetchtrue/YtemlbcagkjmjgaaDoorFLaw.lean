/- FetchTrue, whole. -/
import Derived.Test.YtemlbcagkjmjgaaDoorFLaw6
import Derived.Test.YtemlbcagkjmjgaaDoorM35
import Derived.Deep.CutBlock
namespace Go.Proofs.YtemlbcagkjmjgaaDoor
open Go.RowKit Go.Maps
set_option linter.unusedVariables false
set_option linter.unusedSimpArgs false

theorem grow_few : ∀ (l : List (Key × Key)) (o : Option Tr), Good o → Good (l.foldl growO o) ∧ (itemsO (l.foldl growO o)).length ≤ (itemsO o).length + l.length
  | [], o, g => ⟨g, Nat.le_refl _⟩
  | x :: r, o, g => by
    obtain ⟨h1, h2⟩ := grow_few r (growO o x) (growO_good g x)
    refine ⟨h1, Nat.le_trans h2 ?_⟩
    have : (itemsO (growO o x)).length ≤ (itemsO o).length + 1 := by
      unfold growO
      split
      · rename_i hs
        unfold short at hs
        simp only [Bool.and_eq_true, decide_eq_true_eq] at hs
        rw [(putO_spec x.1 x.2 o g hs.1 hs.2).2]
        have := putGo_len x.1 x.2 (itemsO o)
        cases (x.2 == []) <;> omega
      · omega
    simp only [List.length_cons]
    omega

theorem stepsF_old {w w' : World} {la : Option Addr} {l : List Fs} (h : StepsF w la l) (hb : Below w.heap.size w w') : StepsF w' la l := h.below hb

set_option maxRecDepth 20000 in
set_option maxHeartbeats 12800000 in
theorem fetchTrue_any (a0 : Int) (la ls : Option Addr) (ca lc : Nat) (l : List (Key × Key)) (xs : List Fs) (w0 : World) (ha : InF a0) (hl : l.length ≤ maxLen) (hk : ∀ x ∈ l, x.1.length ≤ maxLen ∧ x.2.length ≤ maxLen) (hI : ItemsAt w0 la l) (hx : xs.length ≤ 140737488355328) (hin : ∀ x ∈ xs, x.In) (hS : StepsF w0 ls xs) :
    Calls Tryd.prog 3 #[.int .i64 a0, .slice la l.length ca, .slice ls xs.length lc] w0 fun e w' => e = .returned (.bool true) ∧ Below w0.heap.size w0 w' := by
  have HS : Hid (StepsF w0 ls xs) := hS
  have HIN : Hid (∀ x ∈ xs, x.In) := hin
  have HK : Hid (∀ x ∈ l, x.1.length ≤ maxLen ∧ x.2.length ≤ maxLen) := hk
  have HI : Hid (ItemsAt w0 la l) := hI
  have K0 := light_any la ca l w0 hl hI
  clear hS hin hk hI
  go_enter Tryd.func3, Tryd.ntmps3
  go_wp2_with fail
  refine K0.mono ?_
  rintro e w1 ⟨⟨z, rfl, hz⟩, b1⟩
  clear K0
  cases z with
  | false =>
    go_wp2
    go_ret
    exact ⟨rfl, b1⟩
  | true =>
    have hl4 := hz rfl
    clear hz
    by_cases h256 : xs.length ≤ 256
    rotate_left
    · have hg : (xs.length : Int) > 256 := by omega
      go_wp2
      go_ret
      exact ⟨rfl, b1⟩
    have hg : ¬ (xs.length : Int) > 256 := by omega
    go_upto_block 0 with fail
    go_cut [] (fun wx => Below w0.heap.size w0 wx)
    case first =>
      go_wp2_with fail
      go_loopw [7] (fun iv wv => ∃ i : Nat, i ≤ xs.length ∧ iv = .int .i64 i ∧ Below w0.heap.size w0 wv) (fun iv _ => xs.length - (intOf iv).toNat)
      case atStart => exact ⟨0, Nat.zero_le _, rfl, b1⟩
      case round =>
        obtain ⟨i, hi, rfl, hb⟩ := hrel
        by_cases hlt : i < xs.length
        rotate_left
        · have hge : ¬ (i : Int) < (xs.length : Int) := by omega
          go_wp2_with fail
          go_meet
          case rel => exact hb
        have hlt' : (i : Int) < (xs.length : Int) := by omega
        obtain ⟨sb, off, e, hsb, hsc⟩ := HS.out.one hlt
        subst e
        have hix := HIN.out _ (List.getElem_mem hlt)
        have hbl := Nat.lt_of_lt_of_le hsb hb.size
        have q4 := hsc wr (hb.block sb hsb) 4 _ rfl
        have q5 := hsc wr (hb.block sb hsb) 5 _ rfl
        have q9 := hsc wr (hb.block sb hsb) 9 _ rfl
        have j4 := hix.hk
        have j5 := hix.hv
        have j9 := hix.hw
        clear hsc hix
        generalize xs[i] = sx at *
        have z4 := str_size sx.n.key
        have z5 := str_size sx.n.val
        have z9 := str_size sx.way
        generalize sx.n.key.length = n4 at *
        generalize sx.n.val.length = n5 at *
        generalize sx.way.length = n9 at *
        have ws1 : IntKind.i64.wrap ((n4 : Int) + (n5 : Int)) = (n4 : Int) + (n5 : Int) := by simp [IntKind.wrap, IntKind.min, IntKind.max, IntKind.signed, IntKind.bits]; omega
        have ws2 : IntKind.i64.wrap ((n4 : Int) + (n5 : Int) + (n9 : Int)) = (n4 : Int) + (n5 : Int) + (n9 : Int) := by simp [IntKind.wrap, IntKind.min, IntKind.max, IntKind.signed, IntKind.bits]; omega
        by_cases hbig : (n4 : Int) + (n5 : Int) + (n9 : Int) > 8192
        · go_upto_region 6 with fail
          go_quiet (fail)
          go_wp2
          go_ret
          exact ⟨rfl, below_drewN hb _⟩
        · go_upto_region 6 with fail
          go_quiet (fail)
          go_wp2
          exact ⟨⟨i + 1, by omega, by go_num, below_drewN hb _⟩, by simp [intOf]; omega⟩
    case rest =>
      have B2 : Below w0.heap.size w0 wc := hcut
      clear hcut b1 hg
      generalize wc = w2 at *
      go_wp2_with fail
      refine (pick_any a0 8 _ ha (by omega)).mono ?_
      rintro e w3 ⟨⟨p, rfl, hp0, hp1⟩, rfl⟩
      have wsp : IntKind.i64.wrap (1 + p) = 1 + p := by simp [IntKind.wrap, IntKind.min, IntKind.max, IntKind.signed, IntKind.bits]; omega
      obtain ⟨wd, hwd⟩ : ∃ wd, 1 + p = wd := ⟨_, rfl⟩
      rw [hwd] at wsp
      have hok : okW wd := by unfold okW; omega
      obtain ⟨g0, hfew⟩ := grow_few l none Good.none
      have KG := grown_any wd la ca l w2 hok hl4 HK.out (HI.out.below B2)
      generalize l.foldl growO none = o0 at *
      have hf1 : (itemsO o0).length ≤ 1024 := by have : (itemsO (none : Option Tr)).length = 0 := rfl; omega
      clear hfew
      go_wp2_with fail
      refine KG.mono ?_
      clear KG
      rintro e w4 ⟨q, la', ⟨cap', rfl⟩, hT, hI', b4⟩
      have bA : Below w4.heap.size w4 ((w4.alloc (.cells #[.int .i64 wd, .pointer q] 34)).alloc (.cells #[.int .i64 wd, .slice la' (itemsO o0).length cap'] 36)) := ((Below.refl _ _).alloc (Nat.le_refl _) _).alloc (by simp) _
      have kt := (Blk.new w4 #[.int .i64 wd, .pointer q] 34).alloc (.cells #[.int .i64 wd, .slice la' (itemsO o0).length cap'] 36)
      have ku := Blk.new (w4.alloc (.cells #[.int .i64 wd, .pointer q] 34)) #[.int .i64 wd, .slice la' (itemsO o0).length cap'] 36
      rw [World.size_alloc] at ku
      have B5 := B2.trans ((b4.trans (bA.mono b4.size)).mono B2.size)
      have hT5 := TopAt.below bA hT
      have hI5 := hI'.below bA
      clear hT hI' bA b4 B2
      go_upto_region 10 with fail
      generalize (w4.alloc (.cells #[.int .i64 wd, .pointer q] 34)).alloc (.cells #[.int .i64 wd, .slice la' (itemsO o0).length cap'] 36) = w5 at *
      generalize w4.heap.size = bt at *
      go_cut [10] (fun fv wx => ∃ wN fb mb n, n ≤ 2047 ∧ fv = .pointer (some ⟨fb, 0, none⟩) ∧ Below w0.heap.size w0 wN ∧ LawAt wN bt (bt + 1) fb mb wd o0 q la' cap' 0 [([], rootP wd o0)] none [] n wx)
      case first =>
        have t0 := (kt.cell 0).trans rfl
        have t1 := (kt.cell 1).trans rfl
        have zt := kt.lt
        go_wp2_with fail
        refine (root_any wd q o0 w5 hok hT5).mono ?_
        rintro e w6 ⟨rfl, b6⟩
        have kt6 := kt.below b6 kt.lt
        have ku6 := ku.below b6 ku.lt
        have hT6 := TopAt.below b6 hT5
        have hI6 := hI5.below b6
        have B6 := B5.trans (b6.mono B5.size)
        clear t0 t1 zt kt ku hT5 hI5 B5 b6
        go_wp2_with fail
        refine (newF_any wd (rootP wd o0) w6).mono ?_
        rintro e w7 ⟨fb, mb, rfl, hst, b7⟩
        have hsize : (match o0 with | none => 1 | some t => t.size) ≤ 2047 := by
          cases o0 with
          | none => simp
          | some t =>
            have := t.size_items
            simp only [itemsO] at hf1
            simp only
            omega
        have HLW : Hid (LawAt w6 bt (bt + 1) fb mb wd o0 q la' cap' 0 [([], rootP wd o0)] none [] _ w7) := ⟨kt6, ku6, hT6, hI6, g0, hf1, hok, hst, .top, b7, rfl, Nat.le_refl _⟩
        clear kt6 ku6 hT6 hI6 hst b7
        go_wp2_with fail
        go_meet
        case rel => exact ⟨w6, fb, mb, _, hsize, rfl, B6, HLW.out⟩
      case rest =>
        obtain ⟨wN, fb, mb, n, hn, rfl, BN, HLW⟩ := hcut
        refine ‹∀ a w, Code.wp Tryd.prog _ _ a w → _› _ _ ?_
        exact ft6 w0 wN wc bt (bt + 1) fb mb wd o0 q la' ls cap' lc n hn xs h256 HIN.out (stepsF_old HS.out BN) _ none [] BN HLW _ _ _ _ _ _ _ _ _ _ _ _ _ _ _ _ _ _ _ _ _ _ _ _ _ _ _ _ _ _ _ _ _ _ _ _ _ _ _ _ _ _ _ _ _ _ _ _ _ _ _ _ _ _ _ _ _ _ _ _ _ _ _ _ _ _ _ _ _ _ _ _ _ _ _ _ _ _ _ _ _ _ _ _ _ _ _ _ _ _ _ _ _ _ _ _ _ _ _ _ _ _ _ _ _ _ _ _ _ _ _ _ _ _ _ _ _ _ _ _ _ _ _ _ _ _ _ _ _ _ _ _ _ _ _ _ _ _ _ _ _ _ _ _ _ _ _ _ _ _ _ _ _ _ _ _ _ _ _ _ _ _ _ _ _ _ _ _ _ _ _ _ _ _ _ _ _ _ _ _ _ _ _ _ _ _ _ _ _ _ _ _ _ _ _ _ _ _ _ _ _ _ _ _ _ _ _ _
end Go.Proofs.YtemlbcagkjmjgaaDoor
