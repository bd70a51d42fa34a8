/- FetchExact, whole. -/
import Derived.Test.YtmhllihedejehaaGreatGE7
import Derived.Test.YtmhllihedejehaaGreatM21
import Derived.Deep.CutBlock
namespace Go.Proofs.YtmhllihedejehaaGreat
open Go.RowKit Go.Maps
set_option linter.unusedVariables false
set_option linter.unusedSimpArgs false

theorem grow_few : ∀ (l : List (Key × Key)) (o : Option Tr), Good o → Good (l.foldl growO o) ∧ (itemsO (l.foldl growO o)).length ≤ (itemsO o).length + l.length
  | [], o, g => ⟨g, Nat.le_refl _⟩
  | x :: r, o, g => by
    obtain ⟨h1, h2⟩ := grow_few r (growO o x) (growO_good g x)
    refine ⟨h1, Nat.le_trans h2 ?_⟩
    have : (itemsO (growO o x)).length ≤ (itemsO o).length + 1 := by
      unfold growO
      split
      · rename_i hs
        unfold short at hs
        simp only [Bool.and_eq_true, decide_eq_true_eq] at hs
        rw [(putO_spec x.1 x.2 o g hs.1 hs.2).2]
        have := putGo_len x.1 x.2 (itemsO o)
        cases (x.2 == []) <;> omega
      · omega
    simp only [List.length_cons]
    omega

theorem stepsF_old {w w' : World} {la : Option Addr} {l : List Fs} (h : StepsF w la l) (hb : Below w.heap.size w w') : StepsF w' la l := h.below hb

set_option maxRecDepth 20000 in
set_option maxHeartbeats 12800000 in
theorem fetchExact_any (a0 : Int) (la ls : Option Addr) (ca lc : Nat) (l : List (Key × Key)) (xs : List Fs) (w0 : World) (ha : InF a0) (hl : l.length ≤ maxLen) (hk : ∀ x ∈ l, x.1.length ≤ maxLen ∧ x.2.length ≤ maxLen) (hI : ItemsAt w0 la l) (hx : xs.length ≤ 140737488355328) (hin : ∀ x ∈ xs, x.In) (hS : StepsF w0 ls xs) :
    Calls Tryz.prog 3 #[.int .i64 a0, .slice la l.length ca, .slice ls xs.length lc] w0 fun e w' => e = .returned (.bool true) ∧ Below w0.heap.size w0 w' := by
  have HS : Hid (StepsF w0 ls xs) := hS
  have HIN : Hid (∀ x ∈ xs, x.In) := hin
  have HK : Hid (∀ x ∈ l, x.1.length ≤ maxLen ∧ x.2.length ≤ maxLen) := hk
  have HI : Hid (ItemsAt w0 la l) := hI
  have K0 := light_any la ca l w0 hl hI
  clear hS hin hk hI
  go_enter Tryz.func3, Tryz.ntmps3
  go_wp2_with fail
  refine K0.mono ?_
  rintro e w1 ⟨⟨z, rfl, hz⟩, b1⟩
  clear K0
  cases z with
  | false =>
    go_wp2
    go_ret
    exact ⟨rfl, b1⟩
  | true =>
    have hl4 := hz rfl
    clear hz
    by_cases h256 : xs.length ≤ 512
    rotate_left
    · have hg : (xs.length : Int) > 512 := by omega
      go_wp2
      go_ret
      exact ⟨rfl, b1⟩
    have hg : ¬ (xs.length : Int) > 512 := by omega
    go_upto_block 0 with fail
    go_cut [] (fun wx => Hid (∀ x ∈ xs, x.way.length ≤ 8192) ∧ Below w0.heap.size w0 wx)
    case first =>
      go_wp2_with fail
      go_loopw [7] (fun iv wv => ∃ i : Nat, i ≤ xs.length ∧ iv = .int .i64 i ∧ Hid (∀ x ∈ xs.take i, x.way.length ≤ 8192) ∧ Below w0.heap.size w0 wv) (fun iv _ => xs.length - (intOf iv).toNat)
      case atStart => exact ⟨0, Nat.zero_le _, rfl, fun x hx => by simp at hx, b1⟩
      case round =>
        obtain ⟨i, hi, rfl, HT, hb⟩ := hrel
        by_cases hlt : i < xs.length
        rotate_left
        · have hge : ¬ (i : Int) < (xs.length : Int) := by omega
          have HA : Hid (∀ x ∈ xs, x.way.length ≤ 8192) := by
            have := HT.out
            rw [List.take_of_length_le (by omega)] at this
            exact this
          clear HT
          go_wp2_with fail
          go_meet
          case rel => exact ⟨HA, hb⟩
        have hlt' : (i : Int) < (xs.length : Int) := by omega
        obtain ⟨sb, off, e, hsb, hsc⟩ := HS.out.one hlt
        subst e
        have hix := HIN.out _ (List.getElem_mem hlt)
        have hbl := Nat.lt_of_lt_of_le hsb hb.size
        have q4 := hsc wr (hb.block sb hsb) 4 _ rfl
        have q5 := hsc wr (hb.block sb hsb) 5 _ rfl
        have q9 := hsc wr (hb.block sb hsb) 9 _ rfl
        have j4 := hix.hk
        have j5 := hix.hv
        have j9 := hix.hw
        have ht1 := List.take_succ_eq_append_getElem hlt
        clear hsc hix
        generalize xs[i] = sx at *
        have z4 := str_size sx.n.key
        have z5 := str_size sx.n.val
        have z9 := str_size sx.way
        have HT1 : Hid (sx.way.length ≤ 8192 → ∀ x ∈ xs.take (i + 1), x.way.length ≤ 8192) := fun hq x hx => by
          rw [ht1] at hx
          rcases List.mem_append.1 hx with q | q
          · exact HT.out x q
          · simp at q; subst q; exact hq
        clear ht1 HT
        generalize sx.n.key.length = n4 at *
        generalize sx.n.val.length = n5 at *
        generalize sx.way.length = n9 at *
        have ws1 : IntKind.i64.wrap ((n4 : Int) + (n5 : Int)) = (n4 : Int) + (n5 : Int) := by simp [IntKind.wrap, IntKind.min, IntKind.max, IntKind.signed, IntKind.bits]; omega
        have ws2 : IntKind.i64.wrap ((n4 : Int) + (n5 : Int) + (n9 : Int)) = (n4 : Int) + (n5 : Int) + (n9 : Int) := by simp [IntKind.wrap, IntKind.min, IntKind.max, IntKind.signed, IntKind.bits]; omega
        by_cases hbig : (n4 : Int) + (n5 : Int) + (n9 : Int) > 8192
        · go_upto_region 6 with fail
          go_quiet (fail)
          go_wp2
          go_ret
          exact ⟨rfl, below_drewN hb _⟩
        · go_upto_region 6 with fail
          go_quiet (fail)
          go_wp2
          exact ⟨⟨i + 1, by omega, by go_num, HT1.out (by omega), below_drewN hb _⟩, by simp [intOf]; omega⟩
    case rest =>
      obtain ⟨H8, B2⟩ := hcut
      clear b1 hg
      generalize wc = w2 at *
      go_wp2_with fail
      refine (pick_any a0 8 _ ha (by omega)).mono ?_
      rintro e w3 ⟨⟨p, rfl, hp0, hp1⟩, rfl⟩
      have wsp : IntKind.i64.wrap (1 + p) = 1 + p := by simp [IntKind.wrap, IntKind.min, IntKind.max, IntKind.signed, IntKind.bits]; omega
      obtain ⟨wd, hwd⟩ : ∃ wd, 1 + p = wd := ⟨_, rfl⟩
      rw [hwd] at wsp
      have hok : okW wd := by unfold okW; omega
      obtain ⟨g0, hfew⟩ := grow_few l none Good.none
      have KG := grown_cap wd la ca l w2 hok hl4 HK.out (HI.out.below B2)
      generalize l.foldl growO none = o0 at *
      have hf1 : (itemsO o0).length ≤ 1024 := by have : (itemsO (none : Option Tr)).length = 0 := rfl; omega
      clear hfew
      go_wp2_with fail
      refine KG.mono ?_
      clear KG
      rintro e w4 ⟨q, la', ⟨cap', rfl, hcp⟩, hT, hI', b4, _⟩
      have bA : Below w4.heap.size w4 ((w4.alloc (.cells #[.int .i64 wd, .pointer q] 34)).alloc (.cells #[.int .i64 wd, .slice la' (itemsO o0).length cap'] 36)) := ((Below.refl _ _).alloc (Nat.le_refl _) _).alloc (by simp) _
      have kt := (Blk.new w4 #[.int .i64 wd, .pointer q] 34).alloc (.cells #[.int .i64 wd, .slice la' (itemsO o0).length cap'] 36)
      have ku := Blk.new (w4.alloc (.cells #[.int .i64 wd, .pointer q] 34)) #[.int .i64 wd, .slice la' (itemsO o0).length cap'] 36
      rw [World.size_alloc] at ku
      have B5 := B2.trans ((b4.trans (bA.mono b4.size)).mono B2.size)
      have hI5 := hI'.below bA
      clear hT hI' bA b4 B2 kt
      go_upto_region 10 with fail
      generalize (w4.alloc (.cells #[.int .i64 wd, .pointer q] 34)).alloc (.cells #[.int .i64 wd, .slice la' (itemsO o0).length cap'] 36) = w5 at *
      generalize w4.heap.size = bt at *
      go_cut [10] (fun fv wx => ∃ wN fb mb, fv = .pointer (some ⟨fb, 0, none⟩) ∧ Below w0.heap.size w0 wN ∧ Below w5.heap.size w5 wN ∧ St wN.heap.size wx fb wd (rootP wd o0) mb [([], rootP wd o0)] none [] ∧ Below wN.heap.size wN wx)
      case first =>
        have t0 := (ku.cell 0).trans rfl
        have t1 := (ku.cell 1).trans rfl
        have zt := ku.lt
        go_wp2_with fail
        refine (rroot_any wd o0 la' cap' w5 hok (g0.fineG (by omega)) hcp hI5).mono ?_
        rintro e w6 ⟨rfl, b6⟩
        have B6 := B5.trans (b6.mono B5.size)
        clear t0 t1 zt
        go_wp2_with fail
        refine (newF_any wd (rootP wd o0) w6).mono ?_
        rintro e w7 ⟨fb, mb, rfl, hst, b7⟩
        have HLW : Hid (St w6.heap.size w7 fb wd (rootP wd o0) mb [([], rootP wd o0)] none []) := hst
        clear hst
        go_wp2_with fail
        go_meet
        case rel => exact ⟨w6, fb, mb, rfl, B6, b6, HLW.out, b7⟩
      case rest =>
        obtain ⟨wN, fb, mb, rfl, BN, b5N, hst, bN⟩ := hcut
        refine ‹∀ a w, Code.wp Tryz.prog _ _ a w → _› _ _ ?_
        have HST : Hid (St wN.heap.size wc fb wd (rootP wd o0) mb [([], rootP wd o0)] none []) := hst
        have b5c : Below w5.heap.size w5 wc := b5N.trans (bN.mono b5N.size)
        have kuN := ku.below b5N ku.lt
        have kuc := ku.below b5c ku.lt
        have hIN := hI5.below b5N
        have hIc := hI5.below b5c
        have t0 := (kuc.cell 0).trans rfl
        have t1 := (kuc.cell 1).trans rfl
        have zt := kuc.lt
        clear ku hI5 hst kuc
        generalize wc = w8 at *
        go_upto_region 11 with fail
        go_cut [11] (fun gv wx => ∃ gb sb, gv = .pointer (some ⟨gb, 0, none⟩) ∧ Pr wN (bt + 1) fb mb gb wd o0 la' cap' 0 [([], rootP wd o0)] none [] sb wx)
        case first =>
          go_wp2_with fail
          refine (rroot_any wd o0 la' cap' w8 hok (g0.fineG (by omega)) hcp hIc).mono ?_
          rintro e w9 ⟨rfl, b9⟩
          clear t0 t1 zt
          go_wp2_with fail
          refine (rfNew_any wd (rootP wd o0) w9).mono ?_
          rintro e w10 ⟨gb, vL, rfl, hrf, hgg, b10⟩
          have b8 : Below w8.heap.size w8 w10 := bel_inG b9 b10
          have HPR : Hid (Pr wN (bt + 1) fb mb gb wd o0 la' cap' 0 [([], rootP wd o0)] none [] [] w10) := ⟨kuN, hIN, hcp, g0, hf1, hok, HST.out.below b8, ⟨_, _, _, _, _, hrf, .inl rfl, Nat.le_refl _⟩, List.Perm.refl _, List.Pairwise.nil, List.nodup_nil, Nat.le_refl _, fun x hx => by simp at hx; subst hx; exact Nat.le_refl _, Nat.le_refl _, Nat.le_refl _, bN.trans (b8.mono bN.size), Nat.le_trans bN.size (Nat.le_trans b9.size hgg)⟩
          clear hrf
          go_wp2_with fail
          go_meet
          case rel => exact ⟨gb, [], rfl, HPR.out⟩
        case rest =>
          obtain ⟨gb, sb, rfl, HPR⟩ := hcut
          refine ‹∀ a w, Code.wp Tryz.prog _ _ a w → _› _ _ ?_
          exact fe7 w0 wN wc (bt + 1) fb mb gb wd o0 la' ls cap' lc xs h256 HIN.out H8.out (stepsF_old HS.out BN) _ none [] sb BN HPR _ _ _ _ _ _ _ _ _ _ _ _ _ _ _ _ _ _ _ _ _ _ _ _ _ _ _ _ _ _ _ _ _ _ _ _ _ _ _ _ _ _ _ _ _ _ _ _ _ _ _ _ _ _ _ _ _ _ _ _ _ _ _ _ _ _ _ _ _ _ _ _ _ _ _ _ _ _ _ _ _ _ _ _ _ _ _ _ _ _ _ _ _ _ _ _ _ _ _ _ _ _ _ _ _ _ _ _ _ _ _ _ _ _ _ _ _ _ _ _ _ _ _ _ _ _ _ _ _ _ _ _ _ _ _ _ _ _ _ _ _ _ _ _ _ _ _ _ _ _ _ _ _ _ _ _ _ _ _ _ _ _ _ _ _ _ _ _ _ _ _ _ _ _ _ _ _ _ _ _ _ _ _ _ _ _ _ _ _ _ _ _ _ _ _ _ _ _ _ _ _ _ _ _ _ _ _ _ _ _ _ _ _ _ _ _ _ _ _
end Go.Proofs.YtmhllihedejehaaGreat
