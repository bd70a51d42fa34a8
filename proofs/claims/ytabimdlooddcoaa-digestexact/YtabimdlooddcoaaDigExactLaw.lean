/- DigestExact: whatever the width, the tag, the parts and the place: the program's digest of the parts, of the image, of the list, and its path of that place are the answer's. No condition. -/
import Derived.Test.YtabimdlooddcoaaRows
import Derived.Test.YtabimdlooddcoaaDigSmall
import Derived.WalkKit
import Derived.ProofKit
import Derived.OpenShut
import Derived.ShutString
import Derived.ChangeOld
import Derived.Below
import Derived.SizedLaws
import Derived.SliceStrings
namespace Go.Proofs.Ytabimdlooddcoaa.digestExact
open Go.ChangeShapes Go.WideShapes Go.ChangeAt Go.RowKit
set_option linter.unusedVariables false

theorem own : ownKnob Try.prog.godebug = none := by kernel_rfl
theorem laidOut : laidOutB Try.prog = true := by kernel_rfl

set_option maxHeartbeats 3200000 in
theorem walk (wd tag : Int) (a : Option Addr) (n cap : Nat) (ss : List ByteArray) (i : Int) (w : World) (hw : -9223372036854775808 ≤ wd ∧ wd ≤ 9223372036854775807) (hi : -9223372036854775808 ≤ i ∧ i ≤ 9223372036854775807)
    (hl : ss.length = n) (hn : n ≤ 140737488351232) (hcap : n ≤ cap) (hm : cap ≤ maxLen) (hsz : ∀ s ∈ ss, s.size ≤ 140737488351232) (hs : Strs w a ss) :
    Calls Try.prog 3 #[.int .i64 wd, .int .i64 tag, .slice a n cap, .int .i64 i] w fun e w' => e = .returned (.bool true) ∧ Below w.heap.size w w' := by
  by_cases hbig : 65536 < sumP ss
  · have hbig' : (65536 : Int) < (sumP ss : Int) := by omega
    go_enter Try.func3, Try.ntmps3
    go_wp2_with fail
    refine (sum_any a n cap ss _ hn hsz hl hs).mono ?_
    rintro e w1 ⟨rfl, rfl⟩
    go_wp2
    go_ret
    exact ⟨rfl, Below.refl _ _⟩
  · have hge := sumF_ge ss ss.length
    have hbig' : ¬ (65536 : Int) < (sumP ss : Int) := by omega
    have hn2 : n ≤ 65536 := by unfold sumP at hbig; omega
    have HL := show Hid (_ = _) from hl
    have hml : n ≤ maxLen := by omega
    clear hl hge hbig
    by_cases hin : 0 ≤ i ∧ i < n
    · obtain ⟨k, rfl⟩ := Int.eq_ofNat_of_zero_le hin.1
      have hk : k < n := by omega
      obtain ⟨b, off, rfl⟩ := hs.some_of (by rw [HL.out]; omega)
      go_enter Try.func3, Try.ntmps3
      go_wp2_with fail
      refine (sum_any _ n cap ss _ hn hsz HL.out hs).mono ?_
      rintro e w1 ⟨rfl, rfl⟩
      go_wp2_with fail
      refine (of_any wd tag _ n cap ss _ hw HL.out hml hs).mono ?_
      rintro e w1 ⟨rfl, b1⟩
      go_wp2_with fail
      refine (rof_any wd tag _ n cap ss _ hw HL.out hml (hs.below b1)).mono ?_
      rintro e w2 ⟨rfl, b2'⟩
      have b2 := b1.trans (b2'.mono b1.size)
      go_wp2_with fail
      refine (ofImage_any wd tag _ n cap ss _ hw HL.out hml (hs.below b2)).mono ?_
      rintro e w3 ⟨rfl, b3'⟩
      have b3 := b2.trans (b3'.mono b2.size)
      go_wp2_with fail
      refine (root_any wd _ n cap ss _ hw (by omega) HL.out hcap hm (hs.below b3)).mono ?_
      rintro e w4 ⟨rfl, b4'⟩
      have b4 := b3.trans (b4'.mono b3.size)
      go_wp2_with fail
      refine (rroot_any wd _ n cap ss _ hw (by omega) HL.out hcap hm (hs.below b4)).mono ?_
      rintro e w5 ⟨rfl, b5'⟩
      have b5 := b4.trans (b5'.mono b4.size)
      clear b1 b2' b2 b3' b3 b4' b4 b5'
      go_wp2_with fail
      refine (path_some wd b off n cap k ss _ hw (by omega) HL.out hcap hm (hs.below b5) hk).mono ?_
      rintro e w6 ⟨v6, rfl, r6, b6'⟩
      have b6 := b5.trans (b6'.mono b5.size)
      obtain ⟨a6, c6, rfl⟩ := r6.form
      rw [List.length_map] at *
      have bA : Below w.heap.size w (w6.alloc (.cells #[.int .i64 n, .int .i64 k, .slice a6 (sidesP wd ss k).length c6] 34)) := b6.alloc b6.size _
      go_wp2_with fail
      refine (rpath_some wd b off n cap k ss _ hw (by omega) HL.out hcap hm (hs.below bA) hk).mono ?_
      rintro e w7 ⟨v7, rfl, r7, b7⟩
      obtain ⟨a7, c7, rfl⟩ := r7.form
      rw [List.length_map] at *
      have b67 : Below w6.heap.size w6 w7 := ((Below.refl _ _).alloc (Nat.le_refl _) _).trans (b7.mono (by simp))
      obtain ⟨kc, kf, kz⟩ := own_kept b7
      have d0 := kc 0
      have d1 := kc 1
      have d2 := kc 2
      simp only [List.getElem?_toArray, List.getElem?_cons_succ, List.getElem?_cons_zero] at d0 d1 d2
      clear kc kf
      have bB : Below w.heap.size w (w7.alloc (.cells #[.int .i64 n, .int .i64 k, .slice a7 (sidesP wd ss k).length c7] 34)) := (b6.trans (b67.mono b6.size)).alloc (Nat.le_trans b6.size b67.size) _
      have r6' := (r6.below b67).below ((Below.refl _ _).alloc (Nat.le_refl _) (.cells #[.int .i64 n, .int .i64 k, .slice a7 (sidesP wd ss k).length c7] 34))
      have r7' := r7.below ((Below.refl _ _).alloc (Nat.le_refl _) (.cells #[.int .i64 n, .int .i64 k, .slice a7 (sidesP wd ss k).length c7] 34))
      clear r6 r7 b67 b7 bA b6 b6' b5
      go_wp2_with fail
      refine (samePath_yes _ _ _ _ _ _ r6' r7').mono ?_
      rintro e w8 ⟨rfl, b8⟩
      go_wp2
      go_ret
      exact ⟨by simp, bB.trans (b8.mono bB.size)⟩
    · have hout : i < 0 ∨ (n : Int) ≤ i := by omega
      go_enter Try.func3, Try.ntmps3
      go_wp2_with fail
      refine (sum_any _ n cap ss _ hn hsz HL.out hs).mono ?_
      rintro e w1 ⟨rfl, rfl⟩
      go_wp2_with fail
      refine (of_any wd tag _ n cap ss _ hw HL.out hml hs).mono ?_
      rintro e w1 ⟨rfl, b1⟩
      go_wp2_with fail
      refine (rof_any wd tag _ n cap ss _ hw HL.out hml (hs.below b1)).mono ?_
      rintro e w2 ⟨rfl, b2'⟩
      have b2 := b1.trans (b2'.mono b1.size)
      go_wp2_with fail
      refine (ofImage_any wd tag _ n cap ss _ hw HL.out hml (hs.below b2)).mono ?_
      rintro e w3 ⟨rfl, b3'⟩
      have b3 := b2.trans (b3'.mono b2.size)
      go_wp2_with fail
      refine (root_any wd _ n cap ss _ hw (by omega) HL.out hcap hm (hs.below b3)).mono ?_
      rintro e w4 ⟨rfl, b4'⟩
      have b4 := b3.trans (b4'.mono b3.size)
      go_wp2_with fail
      refine (rroot_any wd _ n cap ss _ hw (by omega) HL.out hcap hm (hs.below b4)).mono ?_
      rintro e w5 ⟨rfl, b5'⟩
      have b5 := b4.trans (b5'.mono b4.size)
      clear b1 b2' b2 b3' b3 b4' b4 b5'
      go_wp2_with fail
      refine (path_none wd _ n cap i _ hout).mono ?_
      rintro e w6 ⟨rfl, b6'⟩
      have b6 := b5.trans (b6'.mono b5.size)
      unfold noPath
      go_wp2_with fail
      refine (rpath_none wd _ n cap i _ hout).mono ?_
      rintro e w7 ⟨rfl, b7⟩
      unfold noPath
      have b67 : Below w6.heap.size w6 w7 := ((Below.refl _ _).alloc (Nat.le_refl _) _).trans (b7.mono (by simp))
      obtain ⟨kc, kf, kz⟩ := own_kept b7
      have d0 := kc 0
      have d1 := kc 1
      have d2 := kc 2
      simp only [List.getElem?_toArray, List.getElem?_cons_succ, List.getElem?_cons_zero] at d0 d1 d2
      clear kc kf
      have bB : Below w.heap.size w (w7.alloc (.cells #[.int .i64 0, .int .i64 0, .slice none 0 0] 34)) := (b6.trans (b67.mono b6.size)).alloc (Nat.le_trans b6.size b67.size) _
      clear b67 b7 b6 b6' b5
      go_wp2_with fail
      refine (samePath_yes 0 0 (.slice none 0 0) (.slice none 0 0) [] _ ⟨none, 0, rfl, Nat.le_refl _, Nat.zero_le _, .inl rfl⟩ ⟨none, 0, rfl, Nat.le_refl _, Nat.zero_le _, .inl rfl⟩).mono ?_
      rintro e w8 ⟨rfl, b8⟩
      go_wp2
      go_ret
      exact ⟨by simp, bB.trans (b8.mono bB.size)⟩

theorem mem_weights_strs {H : Type} (P : Program) (e : TypeId) (ss : List ByteArray) (s : ByteArray) (hs : s ∈ ss) : s.size ∈ DataW.weightsAll (H := H) P e (strs ss) := by
  induction ss with
  | nil => cases hs
  | cons x r ih =>
    simp only [strs, List.map_cons, DataW.weightsAll, DataW.weights]
    rcases List.mem_cons.1 hs with rfl | h
    · simp
    · exact List.mem_append_right _ (ih h)

theorem Try.bytesS : Try.prog.bytesOf 9 = 16 := by kernel_rfl
theorem Try.cellsS : Try.prog.cellsOf 9 = 1 := by kernel_rfl

set_option maxRecDepth 100000 in
theorem lifted (os : Os) (started : os.Started) (H : Type) (enc : TypeId × Value → H) :
    ReturnsInHanded {} Try.checked os 3 .any (Rows.digestExactSpec.pre6 enc Try.prog Try.f3 Rows.digestExactRow.domain false) (Rows.digestExactSpec.post enc Try.prog Try.f3 false true false false) := by
  refine returnsInHanded_of_change_sized (C := Try.checked) own started (by kernel_rfl) Try.func3
    (ChangeSpec.witness6 (enc := enc) (C := Try.checked) false ⟨#[], #[.int .i64 0, .int .i64 0, .slice none 0 0, .int .i64 0], []⟩ 8 (by kernel_rfl) (by kernel_rfl) (by kernel_rfl) (by kernel_rfl)) ?_
  intro W base args ds gs before hval0 hW hcnd hsz0 _
  have hval : ∀ (j : Nat) t v, Try.f3.params[j]? = some t → args[j]? = some v → Value.okWide Try.prog W .any base t v := hval0
  have hsz : (DataW.weightsEach Try.prog (Try.f3.params.toList ++ Rows.digestExactSpec.plain.varTypes Try.prog) (ds ++ gs)).all (· ≤ reachBytes) = true := hsz0
  have hW' := hW
  obtain ⟨p, q, hA0, hV, rfl, hfz, hnd⟩ := hW
  have hA : DataW.TrodAll enc Try.prog W 0 (fun _ => true) true Try.f3.params.toList args.toList ds p := hA0
  rw [Try.params3] at hA hval hsz
  obtain ⟨v0, vs0, d0, ds0, p0, q0, hargs, rfl, rfl, h0, r0⟩ := trodAll_cons hA
  obtain ⟨v1, vs1, d1, ds1, p1, q1, rfl, rfl, rfl, h1, r1⟩ := trodAll_cons r0
  obtain ⟨v2, vs2, d2, ds2, p2, q2, rfl, rfl, rfl, h2, r2⟩ := trodAll_cons r1
  obtain ⟨v3, vs3, d3, ds3, p3, q3, rfl, rfl, rfl, h3, r3⟩ := trodAll_cons r2
  obtain ⟨rfl, rfl, rfl⟩ := trodAll_nil r3
  obtain rfl : args = #[v0, v1, v2, v3] := by cases args; simp_all
  obtain ⟨rfl, rfl⟩ := trodVars_none hV
  obtain ⟨a0, rfl, rfl, rfl, w0⟩ := open_int Try.underlying3 (hval 0 3 v0 rfl rfl) h0
  obtain ⟨a1, rfl, rfl, rfl, w1⟩ := open_int Try.underlying3 (hval 1 3 v1 rfl rfl) h1
  obtain ⟨a3, rfl, rfl, rfl, w3⟩ := open_int Try.underlying3 (hval 3 3 v3 rfl rfl) h3
  obtain ⟨ad, len, cap, rfl⟩ := okWide_slice Try.underlying22 (hval 2 22 v2 rfl rfl)
  have k2 := h2
  have lt2 : ∀ x ∈ p2, x.block < W.heap.size := by obtain ⟨m, hm⟩ := k2; exact DataW.trod_lt m _ _ _ hm
  obtain ⟨ss, hl, hn, hcap, hm, hss, hS⟩ : ∃ ss : List ByteArray, ss.length = len ∧ len ≤ 140737488351232 ∧ len ≤ cap ∧ cap ≤ maxLen ∧ (∀ s ∈ ss, s.size ≤ 140737488351232) ∧ Strs W ad ss := by
    obtain ⟨fuel, hf⟩ := h2
    rcases open_strings Try.underlying22 Try.underlying9 Try.cellsS hf with ⟨hcs, _⟩ | ⟨x, l, c, ss, hcs, _, hlc, hmc, hzl, hx, hcell, hws⟩
    · simp [Value.cells] at hcs
      obtain ⟨rfl, rfl, rfl⟩ := hcs
      exact ⟨[], rfl, by omega, by omega, by unfold maxLen; omega, by simp, by simp, .inl rfl⟩
    · simp [Value.cells] at hcs
      obtain ⟨rfl, rfl, rfl⟩ := hcs
      simp only [Prod.mk.injEq] at hx
      obtain ⟨hd2, hp2⟩ := hx
      subst hd2
      simp at hzl
      have hw2 := sized_slice hsz (j := 2) (t := 22) (e := 9) rfl rfl Try.underlying22
      rw [Try.bytesS] at hw2
      simp only [strs, List.length_map, List.length_take, List.length_drop, reachBytes] at hw2
      refine ⟨ss.take len, by simp; omega, by omega, hlc, hmc, fun s hs => ?_, fun s hs => hws s (List.mem_of_mem_take hs), ?_⟩
      · have hmem : s.size ∈ (DataW.slice (strs (ss.take len)) (strs (ss.drop len)) : DataW H).weights Try.prog 22 := by
          simp only [DataW.weights, Try.underlying22]
          exact List.mem_cons_of_mem _ (List.mem_append_left _ (mem_weights_strs _ _ _ s hs))
        have hall := DataW.weights_mem_each (ts := [3, 3, 22, 3] ++ Rows.digestExactSpec.plain.varTypes Try.prog) (ds := [.lit (.int .i64 a0), .lit (.int .i64 a1), .slice (strs (ss.take len)) (strs (ss.drop len)), .lit (.int .i64 a3)] ++ []) (j := 2) rfl rfl _ hmem
        exact of_decide_eq_true (List.all_eq_true.1 hsz _ hall)
      · by_cases h0 : len = 0
        · left; simp [h0]
        · right
          obtain ⟨b, off, spot⟩ := x
          have hc := hcell 0 (by omega)
          have hspot : spot = none := by simpa [Addr.add] using World.cell?_spot hc
          subst hspot
          have hlt := World.block_lt_of_cell? W _ hc
          refine ⟨b, off, rfl, by simpa [Addr.add] using hlt, fun i hi => ?_⟩
          have hi' : i < ss.length := by simp at hi; omega
          have hci := hcell i hi'
          rw [show (⟨b, off, none⟩ : Addr).add i = ⟨b, off + i, none⟩ by unfold Addr.add; split <;> simp_all] at hci
          rw [hci]
          simp [List.getD, hi']
  clear hA0 hval0
  refine (walk a0 a1 ad len cap ss a3 W (bounds_i64 w0) (bounds_i64 w3) hl hn hcap hm hss hS).mono fun e W' ⟨he, bel⟩ => ?_
  subst he
  exact ⟨_, rfl, _, _, _, [], _, [], hW', trodAll_mk1 (shut_bool Try.underlying4 _), (trodAll_cons_mk (shut_int Try.underlying3 w0) (trodAll_cons_mk (shut_int Try.underlying3 w1) (trodAll_cons_mk (Below.trod laidOut (by kernel_rfl) (of_decide_eq_true (by kernel_rfl)) k2 bel lt2) (trodAll_cons_mk (shut_int Try.underlying3 w3) trodAll_mk0)))), rfl, bel.frame _, fun h => by cases h⟩

theorem over : Rows.digestExactRow.holds Try.pinned (OpenSpec.ofChange Rows.digestExactSpec) :=
  OpenClaim.holds_of_wide 3 Try.f3 rfl rfl rfl rfl rfl rfl rfl ⟨rfl, rfl, rfl, rfl, rfl⟩ rfl rfl rfl rfl rfl (by kernel_rfl) Try.func3 (by kernel_rfl)
    (of_decide_eq_true (by kernel_rfl)) (by unfold Func.isWrapper; first | (rw [if_pos (by decide +kernel)]; kernel_rfl) | (rw [if_neg (by decide +kernel)]; exact ⟨rfl, rfl⟩))
    (fun os started H enc _ => lifted os started H enc)

end Go.Proofs.Ytabimdlooddcoaa.digestExact
namespace Go.Proofs.Ytabimdlooddcoaa

/-- The statement. -/
theorem digestExact_holds : Rows.DigestExactSaid := digestExact.over
end Go.Proofs.Ytabimdlooddcoaa
