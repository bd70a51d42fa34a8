/- Give: somebody says which node stands at the end of a way. -/
import Derived.Test.YtmhllihedejehaaGreatFTake
namespace Go.Proofs.YtmhllihedejehaaGreat
open Go.RowKit Go.Maps
set_option linter.unusedVariables false
set_option linter.unusedSimpArgs false

/-- A tree is being fetched: this is wanted, that was kept, those are barred. -/
def St (base : Nat) (w : World) (fb : Nat) (wd root : Int) (mb : Nat) (L : List (Key × Int)) (o : Option Tr) (bar : List Int) : Prop :=
  ∃ (pt : PT) (q : Option Addr), FetAt base w fb wd root pt o bar q mb ∧ pt.wants [] = L
theorem St.below {base : Nat} {w w' : World} {fb : Nat} {wd root : Int} {mb : Nat} {L : List (Key × Int)} {o : Option Tr} {bar : List Int} (h : St base w fb wd root mb L o bar) (hb : Below w.heap.size w w') : St base w' fb wd root mb L o bar := by
  obtain ⟨pt, q, H, e⟩ := h
  exact ⟨pt, q, H.below hb, e⟩
/-- What is wanted behind a node that was taken; what is kept. -/
def newW (way : Key) (k l r : Int) : List (Key × Int) := if k = 2 then [(way ++ [48], l), (way ++ [49], r)] else []
def newO (k : Int) (key val : Key) (o : Option Tr) : Option Tr := if k = 1 then putO key val o else o
/-- It may be, and it fits. -/
def okN (wd : Int) (way : Key) (d k : Int) (key val : Key) (pos l r : Int) : Bool := mayN k key val pos l r && fitsN wd way.isEmpty d k key val pos l r
/-- What Give leaves. -/
def Gave (base : Nat) (w : World) (fb : Nat) (wd root : Int) (mb : Nat) (L : List (Key × Int)) (o : Option Tr) (bar : List Int) (code : Int) (e : Ending) (w' : World) : Prop :=
  e = .returned (.int .i64 code) ∧ St base w' fb wd root mb L o bar ∧ Kt w w' ∧ Below base w w'

theorem PT.want_of {pt : PT} {way : Key} {A B : List (Key × Int)} {d : Int} (h : pt.wants [] = A ++ (way, d) :: B) : ∃ b, pt.get way = some (.is b d .no .no) ∧ pt.want way = some ⟨b, 0, none⟩ := by
  obtain ⟨ws, b, e, hg⟩ := PT.wants_get pt [] (way, d) (by rw [h]; simp)
  simp only [List.nil_append] at e
  subst e
  refine ⟨b, hg, ?_⟩
  unfold PT.want
  rw [hg]
  rfl
theorem PT.want_not {pt : PT} {way : Key} (h : way ∉ (pt.wants []).map Prod.fst) : pt.want way = none := by
  unfold PT.want
  cases hg : pt.get way with
  | none => rfl
  | some s =>
    cases s with
    | no => rfl
    | is b d l r =>
      show (if _ then _ else _) = _
      by_cases hc : (l.isNo && r.isNo) = true
      · have hc2 : l.isNo = true ∧ r.isNo = true := by simpa using hc
        obtain rfl := PT.eq_no hc2.1
        obtain rfl := PT.eq_no hc2.2
        obtain ⟨A, B, hA, hi, _⟩ := PT.ctx way pt _ [] hg rfl
        have := hA _ (show (PT.is b d .no .no).isNo = false from rfl)
        rw [hi] at this
        exact (h (by rw [this]; simp [PT.wants, PT.isNo])).elim
      · rw [if_neg hc]

section
variable {base : Nat} {fb : Nat} {wd root : Int} {L : List (Key × Int)} {o : Option Tr} {bar : List Int} {mb : Nat}

set_option maxRecDepth 8000 in
set_option maxHeartbeats 3200000 in
theorem give_barred (x k pos l r : Int) (way key val : Key) (w : World) (hB : base ≤ w.heap.size) (hxr : -9223372036854775808 ≤ x ∧ x ≤ 9223372036854775807) (H : St base w fb wd root mb L o bar) (hx : bar.contains x = true) :
    Calls Tryz.prog 14 #[.pointer (some ⟨fb, 0, none⟩), .int .i64 x, .string (str way), .agg #[.int .i64 k, .string (str key), .string (str val), .int .i64 pos, .int .u64 l, .int .u64 r]] w fun e w' => Gave base w fb wd root mb L o bar 17 e w' := by
  have bA : Below w.heap.size w ((w.alloc (.cells #[.int .i64 k, .string (str key), .string (str val), .int .i64 pos, .int .u64 l, .int .u64 r] 28)).alloc (.cells #[] 85)) := ((Below.refl _ _).alloc (Nat.le_refl _) _).alloc (by simp) _
  have b1 : Below w.heap.size w (w.alloc (.cells #[.int .i64 k, .string (str key), .string (str val), .int .i64 pos, .int .u64 l, .int .u64 r] 28)) := (Below.refl _ _).alloc (Nat.le_refl _) _
  have hkey : keyOf Tryz.prog 3 (.int .i64 x) = some (.int .i64 x) := keyOf_int_mk Tryz.underlying3 (by simp [Lit.wf, IntKind.min, IntKind.max, IntKind.signed, IntKind.bits]; omega)
  have HS : Hid (St base w fb wd root mb L o bar) := H
  obtain ⟨pt, q, H, eL⟩ := H
  have H1 := H.below b1
  have M1 := H1.m
  have hb := bar_has bar x
  rw [hx] at hb
  have c5 := (H1.k.cell 5).trans rfl
  have zf := H1.k.lt
  clear H H1
  go_enter Tryz.func14, Tryz.ntmps14
  go_wp2_with (at_lookup; refine wpList_lookup_own_unit _ rfl _ _ 72 rfl 3 85 lawInt Tryz.underlying72 (zeroUnit _) mb _ _ rfl M1 _ _ rfl hkey ?_)
  go_ret
  exact ⟨rfl, St.below HS.out bA, Kt.of_below bA, bA.mono hB⟩

set_option maxRecDepth 8000 in
set_option maxHeartbeats 3200000 in
theorem give_none (x k pos l r : Int) (way key val : Key) (w : World) (hB : base ≤ w.heap.size) (hwl : way.length ≤ maxLen) (hxr : -9223372036854775808 ≤ x ∧ x ≤ 9223372036854775807) (H : St base w fb wd root mb L o bar) (hx : bar.contains x = false) (hn : way ∉ L.map Prod.fst) :
    Calls Tryz.prog 14 #[.pointer (some ⟨fb, 0, none⟩), .int .i64 x, .string (str way), .agg #[.int .i64 k, .string (str key), .string (str val), .int .i64 pos, .int .u64 l, .int .u64 r]] w fun e w' => Gave base w fb wd root mb L o bar 30 e w' := by
  have bA : Below w.heap.size w ((w.alloc (.cells #[.int .i64 k, .string (str key), .string (str val), .int .i64 pos, .int .u64 l, .int .u64 r] 28)).alloc (.cells #[] 85)) := ((Below.refl _ _).alloc (Nat.le_refl _) _).alloc (by simp) _
  have b1 : Below w.heap.size w (w.alloc (.cells #[.int .i64 k, .string (str key), .string (str val), .int .i64 pos, .int .u64 l, .int .u64 r] 28)) := (Below.refl _ _).alloc (Nat.le_refl _) _
  have hkey : keyOf Tryz.prog 3 (.int .i64 x) = some (.int .i64 x) := keyOf_int_mk Tryz.underlying3 (by simp [Lit.wf, IntKind.min, IntKind.max, IntKind.signed, IntKind.bits]; omega)
  have HS : Hid (St base w fb wd root mb L o bar) := H
  obtain ⟨pt, q, H, eL⟩ := H
  have H1 := H.below b1
  have M1 := H1.m
  have hb := bar_has bar x
  rw [hx] at hb
  have c5 := (H1.k.cell 5).trans rfl
  have zf := H1.k.lt
  have H2 := H.below bA
  have KW := wanted_any fb _ _ _ _ _ pt way _ hwl H2.k H2.pl
  rw [← eL] at hn
  rw [PT.want_not hn] at KW
  clear H H1 H2 hn eL
  go_enter Tryz.func14, Tryz.ntmps14
  go_wp2_with (at_lookup; refine wpList_lookup_own_unit _ rfl _ _ 72 rfl 3 85 lawInt Tryz.underlying72 (zeroUnit _) mb _ _ rfl M1 _ _ rfl hkey ?_)
  refine KW.mono ?_
  rintro e w2 ⟨rfl, b2⟩
  have bB := bA.trans (b2.mono bA.size)
  clear KW M1 c5 zf
  go_wp2
  go_ret
  exact ⟨rfl, St.below HS.out bB, Kt.of_below bB, bB.mono hB⟩
set_option maxRecDepth 8000 in
set_option maxHeartbeats 3200000 in
theorem give_bad (x k pos l r d : Int) (way key val : Key) (A B : List (Key × Int)) (w : World) (hB : base ≤ w.heap.size) (hwl : way.length ≤ maxLen) (hkl : key.length ≤ maxLen) (hvl : val.length ≤ maxLen) (hwd : okW wd) (hl : 0 ≤ l ∧ l ≤ 18446744073709551615) (hr : 0 ≤ r ∧ r ≤ 18446744073709551615) (hxr : -9223372036854775808 ≤ x ∧ x ≤ 9223372036854775807) (hbl : bar.length < 1000000) (H : St base w fb wd root mb (A ++ (way, d) :: B) o bar) (hx : bar.contains x = false) (hok : okN wd way d k key val pos l r = false) :
    Calls Tryz.prog 14 #[.pointer (some ⟨fb, 0, none⟩), .int .i64 x, .string (str way), .agg #[.int .i64 k, .string (str key), .string (str val), .int .i64 pos, .int .u64 l, .int .u64 r]] w fun e w' => Gave base w fb wd root mb (A ++ (way, d) :: B) o (bar ++ [x]) 5 e w' := by
  have bA : Below w.heap.size w ((w.alloc (.cells #[.int .i64 k, .string (str key), .string (str val), .int .i64 pos, .int .u64 l, .int .u64 r] 28)).alloc (.cells #[] 85)) := ((Below.refl _ _).alloc (Nat.le_refl _) _).alloc (by simp) _
  have b1 : Below w.heap.size w (w.alloc (.cells #[.int .i64 k, .string (str key), .string (str val), .int .i64 pos, .int .u64 l, .int .u64 r] 28)) := (Below.refl _ _).alloc (Nat.le_refl _) _
  have kn := (Blk.new w #[.int .i64 k, .string (str key), .string (str val), .int .i64 pos, .int .u64 l, .int .u64 r] 28).alloc (.cells #[] 85)
  have hkey : keyOf Tryz.prog 3 (.int .i64 x) = some (.int .i64 x) := keyOf_int_mk Tryz.underlying3 (by simp [Lit.wf, IntKind.min, IntKind.max, IntKind.signed, IntKind.bits]; omega)
  obtain ⟨pt, q, H, eL⟩ := H
  obtain ⟨b, hg, hw⟩ := PT.want_of eL
  have H1 := H.below b1
  have M1 := H1.m
  have hb := bar_has bar x
  rw [hx] at hb
  have c5 := (H1.k.cell 5).trans rfl
  have zf := H1.k.lt
  have H2 := H.below bA
  have KW := wanted_any fb _ _ _ _ _ pt way _ hwl H2.k H2.pl
  rw [hw] at KW
  obtain ⟨up, hP, hu0, hu1⟩ := PlAt.get way H2.pl hg
  have hup : up.isNone = way.isEmpty := by
    rcases list_snoc way with rfl | ⟨vs, c, rfl⟩
    · rw [hu0 rfl]; rfl
    · obtain ⟨u, hu, e⟩ := hu1 vs c rfl
      rw [PT.get_app, hu] at hg
      cases u with
      | no => cases hg
      | is b' d' l' r' => rw [e]; simp [PT.at]
  have KM := fun w' => mayBe_node k key val pos l r w' hkl hvl
  have KF : ∀ w', Below w.heap.size w w' → (∀ kk cs t, Blk ((w.alloc (.cells #[.int .i64 k, .string (str key), .string (str val), .int .i64 pos, .int .u64 l, .int .u64 r] 28)).alloc (.cells #[] 85)) kk cs t → Blk w' kk cs t) → Calls Tryz.prog 32 #[.pointer (some ⟨fb, 0, none⟩), .pointer (some ⟨b, 0, none⟩), .agg #[.int .i64 k, .string (str key), .string (str val), .int .i64 pos, .int .u64 l, .int .u64 r]] w' fun e w'' => e = .returned (.bool (fitsN wd way.isEmpty d k key val pos l r)) ∧ Below w'.heap.size w' w'' := fun w' _ hk => hup ▸ fits_any fb b wd d up _ _ _ _ _ _ _ k key val pos l r w' hwd hkl hvl hl hr (hk _ _ _ H2.k) (hk _ _ _ hP.1)
  have HG : Hid (pt.get way = some (.is b d .no .no)) := hg
  have HW : Hid (pt.wants [] = A ++ (way, d) :: B) := eL
  have HF : Hid (FetAt base ((w.alloc (.cells #[.int .i64 k, .string (str key), .string (str val), .int .i64 pos, .int .u64 l, .int .u64 r] 28)).alloc (.cells #[] 85)) fb wd root pt o bar q mb) := H2
  go_enter Tryz.func14, Tryz.ntmps14
  go_wp2_with (at_lookup; refine wpList_lookup_own_unit _ rfl _ _ 72 rfl 3 85 lawInt Tryz.underlying72 (zeroUnit _) mb _ _ rfl M1 _ _ rfl hkey ?_)
  refine KW.mono ?_
  clear KW M1 c5 zf hP hu0 hu1 hup H H1 H2 hg hw eL
  generalize hwA : (w.alloc (.cells #[.int .i64 k, .string (str key), .string (str val), .int .i64 pos, .int .u64 l, .int .u64 r] 28)).alloc (.cells #[] 85) = wA at *
  clear hwA
  rintro e w2 ⟨rfl, b2⟩
  have bB := bA.trans (b2.mono bA.size)
  have k2 := kn.below b2 kn.lt
  have y0 := (k2.cell 0).trans rfl
  have y1 := (k2.cell 1).trans rfl
  have y2 := (k2.cell 2).trans rfl
  have y3 := (k2.cell 3).trans rfl
  have y4 := (k2.cell 4).trans rfl
  have y5 := (k2.cell 5).trans rfl
  have zn := k2.lt
  go_wp2_with fail
  refine (KM _).mono ?_
  rintro e w3 ⟨rfl, b3⟩
  have bC := bB.trans (b3.mono bB.size)
  have k3 := k2.below b3 k2.lt
  have b23 := b2.trans (b3.mono b2.size)
  clear y0 y1 y2 y3 y4 y5 zn k2 kn
  have y0 := (k3.cell 0).trans rfl
  have y1 := (k3.cell 1).trans rfl
  have y2 := (k3.cell 2).trans rfl
  have y3 := (k3.cell 3).trans rfl
  have y4 := (k3.cell 4).trans rfl
  have y5 := (k3.cell 5).trans rfl
  have zn := k3.lt
  unfold okN at hok
  cases hm : mayN k key val pos l r with
  | false =>
    have F3 := HF.out.below b23
    have M3 := F3.m
    have c5 := (F3.k.cell 5).trans rfl
    have zf := F3.k.lt
    have HF3 : Hid (FetAt base w3 fb wd root pt o bar q mb) := F3
    clear KF KM hok F3 HF
    go_wp2_with (at_mapUpdate; refine wpList_mapUpdate_own _ rfl _ _ _ 72 rfl 3 85 lawInt Tryz.underlying72 (unitElem (H := Unit)) mb _ _ rfl M3 (by unfold maxLen; omega) _ _ _ rfl rfl hkey _ [] unitElem_mk ?_; intro w4 M4 hg4)
    have FB := FetAt.bars HF3.out hg4 M4
    go_ret
    exact ⟨rfl, ⟨pt, q, FB.1, HW.out⟩, (Kt.of_below bC).trans FB.2, (bC.mono hB).trans ⟨hg4.os, hg4.tape, hg4.output, hg4.size, fun kk hkk => hg4.block kk (by have := bC.size; omega) (fun e => by injection e with e; have := HF3.out.lo.2; omega)⟩⟩
  | true =>
    have hft : fitsN wd way.isEmpty d k key val pos l r = false := by rw [hm] at hok; simpa using hok
    have K5 := KF w3 bC (fun kk cs t h => h.below b23 h.lt)
    rw [hft] at K5
    clear KF KM hok hft
    go_wp2_with fail
    refine K5.mono ?_
    rintro e w5 ⟨rfl, b5⟩
    have bD := bC.trans (b5.mono bC.size)
    have F3 := (HF.out.below b23).below b5
    have M3 := F3.m
    have c5 := (F3.k.cell 5).trans rfl
    have zf := F3.k.lt
    have HF3 : Hid (FetAt base w5 fb wd root pt o bar q mb) := F3
    clear F3 HF K5 y0 y1 y2 y3 y4 y5 zn k3
    go_wp2_with (at_mapUpdate; refine wpList_mapUpdate_own _ rfl _ _ _ 72 rfl 3 85 lawInt Tryz.underlying72 (unitElem (H := Unit)) mb _ _ rfl M3 (by unfold maxLen; omega) _ _ _ rfl rfl hkey _ [] unitElem_mk ?_; intro w4 M4 hg4)
    have FB := FetAt.bars HF3.out hg4 M4
    go_ret
    exact ⟨rfl, ⟨pt, q, FB.1, HW.out⟩, (Kt.of_below bD).trans FB.2, (bD.mono hB).trans ⟨hg4.os, hg4.tape, hg4.output, hg4.size, fun kk hkk => hg4.block kk (by have := bD.size; omega) (fun e => by injection e with e; have := HF3.out.lo.2; omega)⟩⟩

theorem may_kind {k pos l r : Int} {key val : Key} (h : mayN k key val pos l r = true) : k = 0 ∨ (k = 1 ∧ key.length ≤ 32 ∧ val.length ≤ 4096) ∨ k = 2 := by
  unfold mayN at h
  by_cases h0 : k = 0
  · exact .inl h0
  · rw [if_neg h0] at h
    by_cases h1 : k = 1
    · rw [if_pos h1] at h
      have := of_decide_eq_true h
      exact .inr (.inl ⟨h1, this.2.2.2.1, this.2.2.2.2.2⟩)
    · rw [if_neg h1] at h
      by_cases h2 : k = 2
      · exact .inr (.inr h2)
      · rw [if_neg h2] at h; cases h

set_option maxRecDepth 8000 in
set_option maxHeartbeats 3200000 in
theorem give_good (x k pos l r d : Int) (way key val : Key) (A B : List (Key × Int)) (w : World) (hB : base ≤ w.heap.size) (hwl : way.length ≤ maxLen) (hkl : key.length ≤ maxLen) (hvl : val.length ≤ maxLen) (hwd : okW wd) (hl : 0 ≤ l ∧ l ≤ 18446744073709551615) (hr : 0 ≤ r ∧ r ≤ 18446744073709551615) (hxr : -9223372036854775808 ≤ x ∧ x ≤ 9223372036854775807) (hbl : bar.length < 1000000) (H : St base w fb wd root mb (A ++ (way, d) :: B) o bar) (hx : bar.contains x = false) (hok : okN wd way d k key val pos l r = true) :
    Calls Tryz.prog 14 #[.pointer (some ⟨fb, 0, none⟩), .int .i64 x, .string (str way), .agg #[.int .i64 k, .string (str key), .string (str val), .int .i64 pos, .int .u64 l, .int .u64 r]] w fun e w' => Gave base w fb wd root mb (A ++ (newW way k l r ++ B)) (newO k key val o) bar 0 e w' := by
  have bA : Below w.heap.size w ((w.alloc (.cells #[.int .i64 k, .string (str key), .string (str val), .int .i64 pos, .int .u64 l, .int .u64 r] 28)).alloc (.cells #[] 85)) := ((Below.refl _ _).alloc (Nat.le_refl _) _).alloc (by simp) _
  have b1 : Below w.heap.size w (w.alloc (.cells #[.int .i64 k, .string (str key), .string (str val), .int .i64 pos, .int .u64 l, .int .u64 r] 28)) := (Below.refl _ _).alloc (Nat.le_refl _) _
  have kn := (Blk.new w #[.int .i64 k, .string (str key), .string (str val), .int .i64 pos, .int .u64 l, .int .u64 r] 28).alloc (.cells #[] 85)
  have hkey : keyOf Tryz.prog 3 (.int .i64 x) = some (.int .i64 x) := keyOf_int_mk Tryz.underlying3 (by simp [Lit.wf, IntKind.min, IntKind.max, IntKind.signed, IntKind.bits]; omega)
  obtain ⟨pt, q, H, eL⟩ := H
  obtain ⟨b, hg, hw⟩ := PT.want_of eL
  have H1 := H.below b1
  have M1 := H1.m
  have hb := bar_has bar x
  rw [hx] at hb
  have c5 := (H1.k.cell 5).trans rfl
  have zf := H1.k.lt
  have H2 := H.below bA
  have KW := wanted_any fb _ _ _ _ _ pt way _ hwl H2.k H2.pl
  rw [hw] at KW
  obtain ⟨up, hP, hu0, hu1⟩ := PlAt.get way H2.pl hg
  have hup : up.isNone = way.isEmpty := by
    rcases list_snoc way with rfl | ⟨vs, c, rfl⟩
    · rw [hu0 rfl]; rfl
    · obtain ⟨u, hu, e⟩ := hu1 vs c rfl
      rw [PT.get_app, hu] at hg
      cases u with
      | no => cases hg
      | is b' d' l' r' => rw [e]; simp [PT.at]
  have KM := fun w' => mayBe_node k key val pos l r w' hkl hvl
  have KF : ∀ w', Below w.heap.size w w' → (∀ kk cs t, Blk ((w.alloc (.cells #[.int .i64 k, .string (str key), .string (str val), .int .i64 pos, .int .u64 l, .int .u64 r] 28)).alloc (.cells #[] 85)) kk cs t → Blk w' kk cs t) → Calls Tryz.prog 32 #[.pointer (some ⟨fb, 0, none⟩), .pointer (some ⟨b, 0, none⟩), .agg #[.int .i64 k, .string (str key), .string (str val), .int .i64 pos, .int .u64 l, .int .u64 r]] w' fun e w'' => e = .returned (.bool (fitsN wd way.isEmpty d k key val pos l r)) ∧ Below w'.heap.size w' w'' := fun w' _ hk => hup ▸ fits_any fb b wd d up _ _ _ _ _ _ _ k key val pos l r w' hwd hkl hvl hl hr (hk _ _ _ H2.k) (hk _ _ _ hP.1)
  have HG : Hid (pt.get way = some (.is b d .no .no)) := hg
  have HW : Hid (pt.wants [] = A ++ (way, d) :: B) := eL
  have HF : Hid (FetAt base ((w.alloc (.cells #[.int .i64 k, .string (str key), .string (str val), .int .i64 pos, .int .u64 l, .int .u64 r] 28)).alloc (.cells #[] 85)) fb wd root pt o bar q mb) := H2
  go_enter Tryz.func14, Tryz.ntmps14
  go_wp2_with (at_lookup; refine wpList_lookup_own_unit _ rfl _ _ 72 rfl 3 85 lawInt Tryz.underlying72 (zeroUnit _) mb _ _ rfl M1 _ _ rfl hkey ?_)
  refine KW.mono ?_
  clear KW M1 c5 zf hP hu0 hu1 hup H H1 H2 hg hw eL
  generalize hwA : (w.alloc (.cells #[.int .i64 k, .string (str key), .string (str val), .int .i64 pos, .int .u64 l, .int .u64 r] 28)).alloc (.cells #[] 85) = wA at *
  clear hwA
  rintro e w2 ⟨rfl, b2⟩
  have bB := bA.trans (b2.mono bA.size)
  have k2 := kn.below b2 kn.lt
  have y0 := (k2.cell 0).trans rfl
  have y1 := (k2.cell 1).trans rfl
  have y2 := (k2.cell 2).trans rfl
  have y3 := (k2.cell 3).trans rfl
  have y4 := (k2.cell 4).trans rfl
  have y5 := (k2.cell 5).trans rfl
  have zn := k2.lt
  go_wp2_with fail
  refine (KM _).mono ?_
  rintro e w3 ⟨rfl, b3⟩
  have bC := bB.trans (b3.mono bB.size)
  have k3 := k2.below b3 k2.lt
  have b23 := b2.trans (b3.mono b2.size)
  clear y0 y1 y2 y3 y4 y5 zn k2 kn
  have y0 := (k3.cell 0).trans rfl
  have y1 := (k3.cell 1).trans rfl
  have y2 := (k3.cell 2).trans rfl
  have y3 := (k3.cell 3).trans rfl
  have y4 := (k3.cell 4).trans rfl
  have y5 := (k3.cell 5).trans rfl
  have zn := k3.lt
  unfold okN at hok
  have hok2 : mayN k key val pos l r = true ∧ fitsN wd way.isEmpty d k key val pos l r = true := by simpa using hok
  obtain ⟨hm, hft⟩ := hok2
  have HM : Hid (mayN k key val pos l r = true) := hm
  have K5 := KF w3 bC (fun kk cs t h => h.below b23 h.lt)
  rw [hft] at K5
  clear KF KM hok hft
  go_wp2_with fail
  refine K5.mono ?_
  rintro e w5 ⟨rfl, b5⟩
  have bD := bC.trans (b5.mono bC.size)
  have F5 := (HF.out.below b23).below b5
  have k5 := k3.below b5 k3.lt
  have hz5 : base ≤ w5.heap.size := Nat.le_trans hB bD.size
  have KT : Calls Tryz.prog 33 #[.pointer (some ⟨fb, 0, none⟩), .pointer (some ⟨b, 0, none⟩), .agg #[.int .i64 k, .string (str key), .string (str val), .int .i64 pos, .int .u64 l, .int .u64 r]] w5 fun e w' => (∃ v, e = .returned v) ∧ Taken base w5 fb wd root pt (newO k key val o) bar mb (A ++ (newW way k l r ++ B)) w' := by
    rcases may_kind HM.out with rfl | ⟨rfl, h1, h2⟩ | rfl
    · exact take_bare b d pos l r way key val A B w5 hz5 F5 HG.out HW.out
    · exact take_leaf b d pos l r way key val A B w5 hwd h1 h2 hz5 F5 HG.out HW.out
    · exact take_fork b d pos l r way key val A B w5 hz5 F5 HG.out HW.out
  have HF5 : Hid (FetAt base w5 fb wd root pt o bar q mb) := F5
  clear K5 y0 y1 y2 y3 y4 y5 zn k3 F5 HF
  have y0 := (k5.cell 0).trans rfl
  have y1 := (k5.cell 1).trans rfl
  have y2 := (k5.cell 2).trans rfl
  have y3 := (k5.cell 3).trans rfl
  have y4 := (k5.cell 4).trans rfl
  have y5 := (k5.cell 5).trans rfl
  have zn := k5.lt
  go_wp2_with fail
  refine KT.mono ?_
  rintro e w6 ⟨⟨v6, rfl⟩, pt', q', F6, W6, S6⟩
  clear y0 y1 y2 y3 y4 y5 zn KT k5
  go_wp2
  go_ret
  exact ⟨rfl, ⟨pt', q', F6, W6⟩, (Kt.of_below bD).trans (HF5.out.kt S6), (bD.mono hB).trans (HF5.out.old hz5 S6)⟩
end
end Go.Proofs.YtmhllihedejehaaGreat
