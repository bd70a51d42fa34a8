/- The answer's Begin. -/
import Derived.Test.YtaifkidpdmhciaaGreatM17
import Derived.Deep.AppendLies
import Derived.Deep.CutBlock
namespace Go.Proofs.YtaifkidpdmhciaaGreat
open Go.RowKit
set_option linter.unusedVariables false
set_option linter.unusedSimpArgs false

theorem idx_at {B : List UInt8} {a : Nat} {c : UInt8} {t : List UInt8} (h : B.drop a = 0 :: 0 :: 0 :: c :: t) : (∀ q : a + 0 < (⟨B.toArray⟩ : ByteArray).size, ((⟨B.toArray⟩ : ByteArray)[a + 0]'q).toNat = 0) ∧ (∀ q : a < (⟨B.toArray⟩ : ByteArray).size, ((⟨B.toArray⟩ : ByteArray)[a]'q).toNat = 0) ∧ (∀ q : a + 1 < (⟨B.toArray⟩ : ByteArray).size, ((⟨B.toArray⟩ : ByteArray)[a + 1]'q).toNat = 0) ∧ (∀ q : a + 2 < (⟨B.toArray⟩ : ByteArray).size, ((⟨B.toArray⟩ : ByteArray)[a + 2]'q).toNat = 0) ∧ (∀ q : a + 3 < (⟨B.toArray⟩ : ByteArray).size, ((⟨B.toArray⟩ : ByteArray)[a + 3]'q).toNat = c.toNat) := by
  have key : ∀ (k : Nat) (x : UInt8), (0 :: 0 :: 0 :: c :: t)[k]? = some x → ∀ q : a + k < (⟨B.toArray⟩ : ByteArray).size, ((⟨B.toArray⟩ : ByteArray)[a + k]'q).toNat = x.toNat := by
    intro k x hx q
    have hq : a + k < B.length := by rw [str_size'] at q; exact q
    have h1 : B[a + k]? = some x := by rw [← hx, ← h, List.getElem?_drop]
    have h2 : B[a + k] = x := by
      rw [List.getElem?_eq_getElem hq] at h1
      exact Option.some.inj h1
    show (B[a + k]'hq).toNat = x.toNat
    rw [h2]
  exact ⟨fun q => key 0 0 rfl q, fun q => key 0 0 rfl q, fun q => key 1 0 rfl q, fun q => key 2 0 rfl q, fun q => key 3 c rfl q⟩
theorem rb_nums (S L n : Nat) (h : S + (12 + L) ≤ n) (hn : n ≤ 200000) (hL : L < 256) : IntKind.i64.wrap ((S : Int) + 12) = (S : Int) + 12 ∧ IntKind.i64.wrap ((S : Int) + 12 + (L : Int)) = (S : Int) + 12 + (L : Int) ∧ IntKind.i64.wrap ((n : Int) - (S : Int)) = (n : Int) - (S : Int) ∧ IntKind.i64.wrap ((n : Int) - (S : Int) - 12) = (n : Int) - (S : Int) - 12 ∧ wrap64 (L : Int) = (L : Int) ∧ (S : Int) + 12 ≤ (n : Int) ∧ (¬ (n : Int) - (S : Int) - 12 < (L : Int)) ∧
    IntKind.i64.wrap ((S : Int) + 1) = (S : Int) + 1 ∧ IntKind.i64.wrap ((S : Int) + 2) = (S : Int) + 2 ∧ IntKind.i64.wrap ((S : Int) + 3) = (S : Int) + 3 ∧ ((S : Int) + 1).toNat = S + 1 ∧ ((S : Int) + 2).toNat = S + 2 ∧ ((S : Int) + 3).toNat = S + 3 ∧ ((S : Int) + 12).toNat = S + 12 ∧ ((S : Int) + 12 + (L : Int)).toNat = S + 12 + L ∧ (0 : Int) ≤ (S : Int) ∧ (S : Int) + 3 < (n : Int) ∧ (S : Int) + 12 ≤ (S : Int) + 12 + (L : Int) ∧ (S : Int) + 12 + (L : Int) ≤ (n : Int) :=
  ⟨wrapI _ (by omega) (by omega), wrapI _ (by omega) (by omega), wrapI _ (by omega) (by omega), wrapI _ (by omega) (by omega), by unfold wrap64; omega, by omega, by omega, wrapI _ (by omega) (by omega), wrapI _ (by omega) (by omega), wrapI _ (by omega) (by omega), by omega, by omega, by omega, by omega, by omega, by omega, by omega, by omega, by omega⟩
theorem owns_lower {w : World} {base base' : Nat} {e : TypeId} {size : Nat} {v : Value} {n : Nat} {xs : List Value} (h : w.ownsRow base' e size v n xs) (hb : base ≤ base') : w.ownsRow base e size v n xs := by
  obtain ⟨h1, h2⟩ := h
  refine ⟨h1, ?_⟩
  rcases h2 with h2 | ⟨g, cap, cur, e1, h3, h4⟩
  · exact .inl h2
  · exact .inr ⟨g, cap, cur, e1, Nat.le_trans hb h3, h4⟩
theorem rb_nums2 (S L n : Nat) (h : S + 12 ≤ n) (h2 : n < S + (12 + L)) (hn : n ≤ 200000) (hL : L < 256) : IntKind.i64.wrap ((S : Int) + 12) = (S : Int) + 12 ∧ (S : Int) + 12 ≤ (n : Int) ∧ IntKind.i64.wrap ((n : Int) - (S : Int)) = (n : Int) - (S : Int) ∧ IntKind.i64.wrap ((n : Int) - (S : Int) - 12) = (n : Int) - (S : Int) - 12 ∧ (n : Int) - (S : Int) - 12 < (L : Int) ∧ wrap64 (L : Int) = (L : Int) ∧
    IntKind.i64.wrap ((S : Int) + 1) = (S : Int) + 1 ∧ IntKind.i64.wrap ((S : Int) + 2) = (S : Int) + 2 ∧ IntKind.i64.wrap ((S : Int) + 3) = (S : Int) + 3 ∧ ((S : Int) + 1).toNat = S + 1 ∧ ((S : Int) + 2).toNat = S + 2 ∧ ((S : Int) + 3).toNat = S + 3 ∧ (0 : Int) ≤ (S : Int) ∧ (S : Int) + 3 < (n : Int) :=
  ⟨wrapI _ (by omega) (by omega), by omega, wrapI _ (by omega) (by omega), wrapI _ (by omega) (by omega), by omega, by unfold wrap64; omega, wrapI _ (by omega) (by omega), wrapI _ (by omega) (by omega), wrapI _ (by omega) (by omega), by omega, by omega, by omega, by omega, by omega⟩
/-- What the answer's Begin leaves. -/
def RBegE (rb : Nat) (A : List Vk) (n : Nat) (dn : Bool) (lf0 kp0 : Int) (w : World) (e : Ending) (w' : World) : Prop :=
  ∃ rv lf kp, e = .returned rv ∧ w'.ownsRow w.heap.size 57 38 rv (whole A n) (flatR (A.take (whole A n))) ∧ RLogAt w' rb (frs (A.take (whole A n))) (frs (A.take (whole A n))).length lf kp false ∧ (dn = true → lf = lf0 ∧ kp = kp0) ∧ (dn = false → lf = 0 ∧ kp = kp0) ∧ But (fun k => k = rb) w w'

set_option maxRecDepth 8000 in
set_option maxHeartbeats 6400000 in
theorem rbegin_any (rb : Nat) (A : List Vk) (n : Nat) (sf : Nat) (dn : Bool) (lf kp : Int) (w : World) (H : RLogAt w rb ((frs A).take n) sf lf kp dn) (hA : ∀ a ∈ A, a.Ok) (hl : A.length ≤ 512) (hn : n ≤ (frs A).length) (hs : sf ≤ n)
    (KP : ∀ a ∈ A, ∃ S, ∀ w', Calls Tryz.prog 24 #[.agg a.rc] w' fun e w'' => e = .returned (.tuple #[.string S, .int .i64 0]) ∧ Below w'.heap.size w' w'') :
    Calls Tryz.prog 13 #[.pointer (some ⟨rb, 0, none⟩)] w fun e w' => RBegE rb A n dn lf kp w e w' := by
  obtain ⟨i0, hinf, hz0, hz1, hz2⟩ := info_parts infoRec
  have hsm := frs_small A
  have hBl : ((frs A).take n).length = n := by rw [List.length_take]; omega
  have KD : Calls Tryz.prog 11 #[.pointer (some ⟨rb, 0, none⟩), .int .i64 n] w fun e w' => e = .returned (.tuple #[]) ∧ (∃ (sf2 : Nat) (lf2 kp2 : Int), Hid ((dn = true → lf2 = lf ∧ kp2 = kp) ∧ (dn = false → lf2 = 0 ∧ kp2 = kp)) ∧ RLogAt w' rb ((frs A).take n) sf2 lf2 kp2 true) ∧ But (fun k => k = rb) w w' := by
    cases dn
    · refine (rdie_any rb ((frs A).take n) sf lf kp n w H (by omega) (by omega) (by omega)).mono ?_
      rintro e w' ⟨rfl, L, K⟩
      have hm : dieN sf ((frs A).take n).length n = n := by rw [hBl]; exact dieN_all sf n hs
      rw [hm, List.take_of_length_le (by omega)] at L
      exact ⟨rfl, ⟨n, 0, kp, ⟨(fun q => by cases q), fun _ => ⟨rfl, rfl⟩⟩, L⟩, K⟩
    · refine (rdie_down rb ((frs A).take n) sf lf kp n w H).mono ?_
      rintro e w' ⟨rfl, rfl⟩
      exact ⟨rfl, ⟨sf, lf, kp, ⟨fun _ => ⟨rfl, rfl⟩, (fun q => by cases q)⟩, H⟩, But.refl _ _⟩
  have hk0 : Blk w rb #[.string ⟨((frs A).take n).toArray⟩, .int .i64 (sf : Int), .int .i64 lf, .int .i64 kp, .bool dn] 27 := H
  have x0 := (hk0.cell 0).trans rfl
  have z0 := hk0.lt
  have sz := str_size' ((frs A).take n)
  rw [hBl] at sz
  have Hdrop : Hid (∀ j, ((frs A).take n).drop (frs (A.take j)).length = (frs (A.drop j)).take (n - (frs (A.take j)).length)) := fun j => drop_frs A n j
  have Htake : Hid (∀ j, j ≤ whole A n → ((frs A).take n).take (frs (A.take j)).length = frs (A.take j) ∧ (frs (A.take j)).length ≤ n) := fun j hj => by
    have h1 := whole_fits A n
    have h2 := frs_len_take (A.take (whole A n)) j
    rw [List.take_take, Nat.min_eq_left hj] at h2
    have h : frs A = frs (A.take j) ++ frs (A.drop j) := by rw [← frs_app, List.take_append_drop]
    refine ⟨?_, by omega⟩
    rw [List.take_take, Nat.min_eq_left (by omega)]
    conv => lhs; rw [h]
    rw [List.take_left]
  have hwl := whole_le A n
  have hn2 : n ≤ 200000 := by omega
  generalize hBB : (frs A).take n = B at *
  clear hBB
  go_enter Tryz.func13, Tryz.ntmps13
  go_wp2_with fail
  refine KD.mono ?_
  rintro e w1 ⟨rfl, ⟨sf2, lf2, kp2, HLK, L1⟩, B0⟩
  clear x0 z0 hk0 KD H
  have k1 : Blk w1 rb #[.string ⟨B.toArray⟩, .int .i64 (sf2 : Int), .int .i64 lf2, .int .i64 kp2, .bool true] 27 := L1
  have x4 := (k1.cell 4).trans rfl
  have f4 := k1.frozen 4
  have z1 := k1.lt
  have k2 : Blk (w1.setCell ⟨rb, 4, none⟩ (.bool false)) rb #[.string ⟨B.toArray⟩, .int .i64 (sf2 : Int), .int .i64 lf2, .int .i64 kp2, .bool false] 27 := k1.set 4 (.bool false)
  have B1 := B0.trans (but_set w1 rb 4 (.bool false))
  clear B0 L1
  go_upto_region 3 with fail
  generalize w1.setCell ⟨rb, 4, none⟩ (.bool false) = w2 at *
  clear x4 f4 z1 k1
  have hz2w := B1.size
  go_wp2_with fail
  go_loopw [3, 4] (fun rv sv w5 => ∃ j : Nat, j ≤ whole A n ∧ sv = .int .i64 ((frs (A.take j)).length : Nat) ∧ w5.ownsRow w2.heap.size 57 38 rv j (flatR (A.take j)) ∧ Below w2.heap.size w2 w5) (fun _ sv _ => n + 1 - (intOf sv).toNat)
  case atStart => exact ⟨0, Nat.zero_le _, rfl, World.ownsRow_nil _ _ _ _, Below.refl _ _⟩
  case round =>
    obtain ⟨j, hj, rfl, own, hb5⟩ := hrel
    generalize u3 = rv at *
    generalize wr = w5 at *
    have kB := k2.below hb5 k2.lt
    have y0 := (kB.cell 0).trans rfl
    have zB := kB.lt
    obtain ⟨hTk, hfit⟩ := Htake.out j hj
    have hD := Hdrop.out j
    by_cases hlt : j < whole A n
    · obtain ⟨a, ha⟩ : ∃ a, A[j]? = some a := ⟨_, List.getElem?_eq_getElem (show j < A.length by omega)⟩
      have hat := whole_at A n j hlt a ha
      have hok := hA a (List.mem_of_getElem? ha)
      obtain ⟨SP, KPa⟩ := KP a (List.mem_of_getElem? ha)
      have hfl := fr_len a
      have hbl := body_len a
      obtain ⟨R, e1⟩ : ∃ R, B.drop (frs (A.take j)).length = a.fr ++ R := ⟨(frs (A.drop (j + 1))).take (n - (frs (A.take j)).length - a.fr.length), by
        rw [hD, drop_at ha, frs_cons, List.take_append, List.take_of_length_le (by omega)]⟩
      obtain ⟨_, i0', i1, i2, i3⟩ := idx_at (B := B) (a := (frs (A.take j)).length) (c := UInt8.ofNat a.body.length) (t := (be (dg a.body) 8 ++ a.body) ++ R) (by rw [e1, fr_head]; rfl)
      rw [ofNat_toNat _ hbl] at i3
      have hexA : (⟨B.toArray⟩ : ByteArray).extract (frs (A.take j)).length ((frs (A.take j)).length + (12 + a.body.length)) = ⟨a.fr.toArray⟩ := by
        rw [ext_mid, e1, ← hfl, List.take_left]
      have hexB : (⟨B.toArray⟩ : ByteArray).extract ((frs (A.take j)).length + 12) ((frs (A.take j)).length + 12 + a.body.length) = ⟨a.body.toArray⟩ := by
        have e2 : (a.fr ++ R).drop 12 = a.body ++ R := by
          unfold Vk.fr frB
          rw [List.append_assoc, List.append_assoc, List.drop_append, be_len, List.drop_of_length_le (by rw [be_len]; omega), List.nil_append]
          rw [List.drop_append, be_len, List.drop_of_length_le (by rw [be_len]; omega), List.nil_append]
          rfl
        rw [ext_mid, ← List.drop_drop, e1, e2, List.take_left]
      have KF : ∀ w', Calls Tryz.prog 22 #[.string ⟨a.body.toArray⟩] w' fun e w'' => e = .returned (.string ⟨a.fr.toArray⟩) ∧ Below w'.heap.size w' w'' := fun w' => rframe_any a.body w' hbl
      have KG : ∀ w', Calls Tryz.prog 23 #[.string ⟨a.body.toArray⟩] w' fun e w'' => e = .returned (.tuple #[.agg a.rc, .int .i64 0]) ∧ Below w'.heap.size w' w'' := fun w' => rgetRecord_v a.h a.r a.s a.has a.bl a.f w' hok.1 hok.2.1 hok.2.2.1 hok.2.2.2.1 hok.2.2.2.2.1 SP KPa
      have htk : A.take (j + 1) = A.take j ++ [a] := by
        obtain ⟨hl', he⟩ := List.getElem?_eq_some_iff.1 ha
        rw [List.take_succ_eq_append_getElem hl', he]
      have Hnext : Hid ((frs (A.take (j + 1))).length = (frs (A.take j)).length + a.fr.length ∧ flatR (A.take (j + 1)) = flatR (A.take j) ++ a.rc.toList ∧ True) := by
        refine ⟨by rw [htk, frs_app, List.length_append, frs_cons, frs_nil, List.append_nil], by rw [htk, flatR_snoc], trivial⟩
      have hCn : a.rc.size = 38 := rfl
      have hC1 : a.rc.all (·.oneCell') = true := RC_one _ _ _ _ _ _
      have hfold : Array.foldl (fun (cs : Array Value) (x : Value × Nat) => cs.setIfInBounds x.snd x.fst) #[.int .i64 0, .int .i64 0, .int .i64 0, .int .i64 0, .bool false, .int .u64 0, .int .i64 0, .int .i64 0, .int .i64 0, .int .i64 0, .int .i64 0, .int .u64 0, .int .u64 0, .int .u64 0, .int .u64 0, .int .u64 0, .int .u64 0, .int .i64 0, .slice none 0 0, .slice none 0 0, .slice none 0 0, .int .i64 0, .int .i64 0, .int .i64 0, .bool false, .int .u64 0, .slice none 0 0, .int .i64 0, .int .i64 0, .int .u64 0, .int .u64 0, .int .u64 0, .int .u64 0, .int .u64 0, .int .u64 0, .int .i64 0, .slice none 0 0, .slice none 0 0] a.rc.zipIdx 0 38 = a.rc := fold_rc _ _ _ _ _ _
      have hone : ∀ u ∈ a.rc.toList, u.oneCell' = true := fun u hu => (Array.all_eq_true_iff_forall_mem.1 hC1) u (by simpa using hu)
      clear e1 htk hok ha hD hTk KPa
      generalize a.rc = C at *
      generalize a.fr = F at *
      generalize a.body = D at *
      generalize hSS : (frs (A.take j)).length = S at *
      have HSS := show Hid (_ = _) from hSS
      clear hSS
      generalize F.length = FL at *
      obtain ⟨L, hL⟩ : ∃ L, D.length = L := ⟨_, rfl⟩
      rw [hL] at i3 hexA hexB hfl hbl
      rw [hfl] at hat
      have hL2 := hbl
      have HFL := show Hid (_ = _) from hfl
      clear hL hfl
      obtain ⟨a12, aL, b1', b2', hL1, hc1, hc2, s1, s2, s3, t1, t2, t3, t4, t5, bb1, bb2, bb3, bb4⟩ := rb_nums S L n hat hn2 hL2
      have hexA' : (⟨B.toArray⟩ : ByteArray).extract S (S + 12 + L) = ⟨F.toArray⟩ := by rw [← hexA, Nat.add_assoc]
      have HX := show Hid (_ ∧ _ ∧ _ ∧ _ ∧ _ ∧ _) from ⟨hfold, hone, KF, KG, hexB, hexA'⟩
      have HY := show Hid (_ ∧ _ ∧ _ ∧ _ ∧ _ ∧ _ ∧ _ ∧ _) from ⟨aL, b1', b2', hc2, t4, t5, bb3, bb4⟩
      have HZ := show Hid (_ ∧ _ ∧ _ ∧ _ ∧ _ ∧ _ ∧ _ ∧ _ ∧ _ ∧ _ ∧ _ ∧ _ ∧ _) from ⟨i0', i1, i2, i3, s1, s2, s3, t1, t2, t3, bb1, bb2, hL1⟩
      clear hfold hone KF KG hexA hexB hexA' Htake Hdrop aL b1' b2' hc2 t4 t5 bb1 bb2 bb3 bb4 i0' i1 i2 i3 s1 s2 s3 t1 t2 t3 hL1
      go_upto_block 2 with fail
      go_cut [5] (fun ev wx => ev = .int .i64 (L : Int) ∧ w5 = wx)
      case first =>
        clear own hb5 HX HY HSS HLK Hnext KP hA
        go_wp2_with fail
        go_loopw [5, 6] (fun ev iv wv => ∃ q : Nat, q ≤ 4 ∧ iv = .int .i64 q ∧ ev = .int .i64 (if q = 4 then (L : Int) else 0) ∧ w5 = wv) (fun _ iv _ => 4 - (intOf iv).toNat)
        case atStart => exact ⟨0, by omega, rfl, rfl, rfl⟩
        case round =>
          obtain ⟨q, hq, rfl, rfl, rfl⟩ := hrel
          rcases (show q = 0 ∨ q = 1 ∨ q = 2 ∨ q = 3 ∨ q = 4 by omega) with rfl | rfl | rfl | rfl | rfl
          · simp only [Nat.reduceEqDiff, if_false]
            obtain ⟨i0', _, _, _, _, _, _, _, _, _, bb1, bb2, _⟩ := HZ.out
            have bq : (S : Int) < (n : Int) := by omega
            clear HZ
            go_wp2
            exact ⟨⟨1, by omega, rfl, by simp, trivial⟩, by simp [intOf]⟩
          · simp only [Nat.reduceEqDiff, if_false]
            obtain ⟨_, i1, _, _, s1, _, _, t1, _, _, bb1, bb2, _⟩ := HZ.out
            have bq : (S : Int) + 1 < (n : Int) ∧ (0 : Int) ≤ (S : Int) + 1 := by omega
            clear HZ
            go_wp2
            exact ⟨⟨2, by omega, rfl, by simp, trivial⟩, by simp [intOf]⟩
          · simp only [Nat.reduceEqDiff, if_false]
            obtain ⟨_, _, i2, _, _, s2, _, _, t2, _, bb1, bb2, _⟩ := HZ.out
            have bq : (S : Int) + 2 < (n : Int) ∧ (0 : Int) ≤ (S : Int) + 2 := by omega
            clear HZ
            go_wp2
            exact ⟨⟨3, by omega, rfl, by simp, trivial⟩, by simp [intOf]⟩
          · simp only [Nat.reduceEqDiff, if_false]
            obtain ⟨_, _, _, i3, _, _, s3, _, _, t3, bb1, bb2, hL1⟩ := HZ.out
            have bq : (S : Int) + 3 < (n : Int) ∧ (0 : Int) ≤ (S : Int) + 3 := by omega
            clear HZ hL1
            have hL3 := wrapI (L : Int) (by omega) (by omega)
            have hL4 : (L : Int) ≤ 255 := by omega
            clear bb1 bb2 hat hfit hsm hwl hn2 hj hlt hbl hL2 hCn hC1 a12 hc1
            go_wp2
            exact ⟨⟨4, by omega, rfl, by simp, trivial⟩, by simp [intOf]⟩
          simp only [if_true]
          go_wp2_with fail
          go_meet
          case rel => exact ⟨rfl, rfl⟩
      case rest =>
        obtain ⟨rfl, hwc⟩ := hcut
        subst hwc
        obtain ⟨aL, b1', b2', hc2, t4, t5, bb3, bb4⟩ := HY.out
        clear HY HZ
        have hLI : (L : Int) ≤ 255 := by omega
        obtain ⟨hfold, hone, KF, KG, hexB, hexA'⟩ := HX.out
        clear HX
        have bb5 : (0 : Int) ≤ (S : Int) + 12 := by omega
        go_upto_region 13 with fail
        refine wp_region_list ?_
        refine wpList_plain rfl (fun K hK => ?_)
        go_simp
        refine hK _ _ ?_
        clear hK K
        refine wpList_on (by kernel_rfl) (fun K hK => ?_)
        go_simp
        refine (KF w5).mono ?_
        rintro e w6 ⟨rfl, b6⟩
        refine hK _ _ ?_
        clear hK K
        refine wpList_plain rfl (fun K hK => ?_)
        go_simp
        refine hK _ _ ?_
        clear hK K
        refine wpList_nil ?_
        simp only [Exit.then]
        have hb6 := hb5.trans (b6.mono hb5.size)
        have own6 := owns_below own b6
        have hz6 := b6.size
        have kB6 := kB.below b6 kB.lt
        clear b6 KF kB y0 zB own hb5
        go_upto_region 14 with fail
        refine wp_region_list ?_
        refine wpList_plain rfl (fun K hK => ?_)
        go_simp
        refine hK _ _ ?_
        clear hK K
        refine wpList_on (by kernel_rfl) (fun K hK => ?_)
        go_simp
        refine (KG w6).mono ?_
        rintro e w3 ⟨rfl, b3⟩
        refine hK _ _ ?_
        clear hK K
        refine wpList_plain rfl (fun K hK => ?_)
        go_simp
        refine hK _ _ ?_
        clear hK K
        refine wpList_plain rfl (fun K hK => ?_)
        go_simp
        refine hK _ _ ?_
        clear hK K
        refine wpList_plain rfl (fun K hK => ?_)
        go_simp
        refine hK _ _ ?_
        clear hK K
        refine wpList_plain rfl (fun K hK => ?_)
        go_simp
        refine hK _ _ ?_
        clear hK K
        have kN := Blk.new w3 #[.int .i64 0, .int .i64 0, .int .i64 0, .int .i64 0, .bool false, .int .u64 0, .int .i64 0, .int .i64 0, .int .i64 0, .int .i64 0, .int .i64 0, .int .u64 0, .int .u64 0, .int .u64 0, .int .u64 0, .int .u64 0, .int .u64 0, .int .i64 0, .slice none 0 0, .slice none 0 0, .slice none 0 0, .int .i64 0, .int .i64 0, .int .i64 0, .bool false, .int .u64 0, .slice none 0 0, .int .i64 0, .int .i64 0, .int .u64 0, .int .u64 0, .int .u64 0, .int .u64 0, .int .u64 0, .int .u64 0, .int .i64 0, .slice none 0 0, .slice none 0 0] 57
        have own3 := owns_below own6 b3
        have own4 := own3.alloc (.cells #[.int .i64 0, .int .i64 0, .int .i64 0, .int .i64 0, .bool false, .int .u64 0, .int .i64 0, .int .i64 0, .int .i64 0, .int .i64 0, .int .i64 0, .int .u64 0, .int .u64 0, .int .u64 0, .int .u64 0, .int .u64 0, .int .u64 0, .int .i64 0, .slice none 0 0, .slice none 0 0, .slice none 0 0, .int .i64 0, .int .i64 0, .int .i64 0, .bool false, .int .u64 0, .slice none 0 0, .int .i64 0, .int .i64 0, .int .u64 0, .int .u64 0, .int .u64 0, .int .u64 0, .int .u64 0, .int .u64 0, .int .i64 0, .slice none 0 0, .slice none 0 0] 57)
        have B3 := hb6.trans (b3.mono hb6.size)
        have B4 := B3.alloc B3.size (.cells #[.int .i64 0, .int .i64 0, .int .i64 0, .int .i64 0, .bool false, .int .u64 0, .int .i64 0, .int .i64 0, .int .i64 0, .int .i64 0, .int .i64 0, .int .u64 0, .int .u64 0, .int .u64 0, .int .u64 0, .int .u64 0, .int .u64 0, .int .i64 0, .slice none 0 0, .slice none 0 0, .slice none 0 0, .int .i64 0, .int .i64 0, .int .i64 0, .bool false, .int .u64 0, .slice none 0 0, .int .i64 0, .int .i64 0, .int .u64 0, .int .u64 0, .int .u64 0, .int .u64 0, .int .u64 0, .int .u64 0, .int .i64 0, .slice none 0 0, .slice none 0 0] 57)
        have hz3 := b3.size
        clear b3 KG own3
        generalize w3.alloc (.cells #[.int .i64 0, .int .i64 0, .int .i64 0, .int .i64 0, .bool false, .int .u64 0, .int .i64 0, .int .i64 0, .int .i64 0, .int .i64 0, .int .i64 0, .int .u64 0, .int .u64 0, .int .u64 0, .int .u64 0, .int .u64 0, .int .u64 0, .int .i64 0, .slice none 0 0, .slice none 0 0, .slice none 0 0, .int .i64 0, .int .i64 0, .int .i64 0, .bool false, .int .u64 0, .slice none 0 0, .int .i64 0, .int .i64 0, .int .u64 0, .int .u64 0, .int .u64 0, .int .u64 0, .int .u64 0, .int .u64 0, .int .i64 0, .slice none 0 0, .slice none 0 0] 57) = w4 at *
        generalize w3.heap.size = nb at *
        refine wpList_store_mid rfl 57 _ _ rfl nb 0 C rfl rfl (kN.there _ (by rw [hCn]; decide)) (by rw [hCn]; kernel_rfl) hC1 ?_
        refine wpList_plain rfl (fun K hK => ?_)
        go_simp
        refine hK _ _ ?_
        clear hK K
        refine wpList_nil ?_
        simp only [Exit.then]
        have hR4 := World.rangeAt_setCells_same w4 nb 0 C.toList (kN.there _ (by rw [Array.length_toList, hCn]; decide))
        have hBt := but_setCells nb C.toList 0 w4
        have hb6z := hb6.size
        have hB4 := hBt.below (B := w2.heap.size) B4.size (fun k hk => by omega)
        have own5 : (w4.setCells nb 0 C.toList).ownsRow w2.heap.size 57 38 rv j (flatR (A.take j)) := hBt.owns own4 (fun g hg e => by have := (own6.lt g hg).2; omega)
        generalize w4.setCells nb 0 C.toList = w7 at *
        have B5 := B4.trans hB4
        have kB7 := k2.below B5 k2.lt
        have y0 := (kB7.cell 0).trans rfl
        have zB := kB7.lt
        clear kN B3 B4 hBt hB4 own4 own6 kB6 hb6
        go_upto_region 16 with fail
        refine wp_region_list ?_
        refine wpList_plain rfl (fun K hK => ?_)
        go_simp
        refine hK _ _ ?_
        clear hK K
        refine wpList_load_mid rfl 57 _ rfl nb 0 rfl C.toList _ hR4 Tryz.underlying57 rfl (by rw [Array.length_toList, hCn]; kernel_rfl) ?_
        rw [Array.toArray_toList]
        refine wpList_plain rfl (fun K hK => ?_)
        go_simp
        refine hK _ _ ?_
        clear hK K
        have kC := Blk.new w7 C 57
        have own6 := own5.alloc (.cells C 57)
        have B6 := B5.alloc B5.size (.cells C 57)
        have hz6 : (w7.alloc (.cells C 57)).heap.size = w7.heap.size + 1 := by simp
        have hrb : ∀ g, rv.ownBlock = some g → w2.heap.size ≤ g := fun g hg => (own5.lt g hg).1
        clear own5 B5
        generalize w7.alloc (.cells C 57) = w8 at *
        refine wpList_append_lies _ rfl _ _ 39 rfl w2.heap.size 57 i0 (.agg RZ) 38 400 Tryz.underlying39 hinf hz0 hz1 hz2 rfl (by omega) rv j _ rfl own6 ⟨w7.heap.size, 0, none⟩ 1 1 C.toList rfl (by rw [Array.length_toList, hCn]) (fun q u hu => by
          rw [Addr.add_mid, Nat.zero_add, kC.cell]
          simpa using hu) hone (by omega) (by unfold maxLen; omega) (by omega) B6.size _ rfl ?_
        intro g cap w9 own9 hg9 hat9 hlt9
        have B9 := B6.grown hg9 B6.size (fun k e => hrb k e)
        refine wpList_plain rfl (fun K hK => ?_)
        go_simp
        refine hK _ _ ?_
        clear hK K
        refine wpList_nil ?_
        simp only [Exit.then]
        have own8 : w9.ownsRow w2.heap.size 57 38 (.slice (some ⟨g, 0, none⟩) (j + 1) cap) (j + 1) (flatR (A.take (j + 1))) := by
          rw [Hnext.out.2.1]
          exact own9
        clear own6 own9 kC hg9 hat9 y0 kB7
        go_wp2
        refine ⟨⟨j + 1, by omega, ?_, own8, B9⟩, ?_⟩
        · rw [Hnext.out.1, HFL.out]
          push_cast
          rw [Int.add_assoc]
        · simp only [intOf]
          omega
    · have hje : j = whole A n := by omega
      have HE : Hid (whole A n = j) := hje.symm
      have own' := owns_lower own hz2w
      have HTk := show Hid (_ = _) from hTk
      by_cases h12 : (frs (A.take j)).length + 12 ≤ n
      · obtain ⟨a, ha⟩ : ∃ a, A[j]? = some a := by
          by_cases hend : j < A.length
          · exact ⟨_, List.getElem?_eq_getElem hend⟩
          · exfalso
            rw [List.take_of_length_le (by omega)] at h12
            omega
        have hnx := whole_next A n a (by rw [← hje]; exact ha)
        rw [← hje] at hnx
        have hfl := fr_len a
        have hbl := body_len a
        obtain ⟨m, hm⟩ : ∃ m, n - (frs (A.take j)).length = m + 4 := ⟨n - (frs (A.take j)).length - 4, by omega⟩
        have e1 : B.drop (frs (A.take j)).length = 0 :: 0 :: 0 :: UInt8.ofNat a.body.length :: (((be (dg a.body) 8 ++ a.body) ++ frs (A.drop (j + 1))).take m) := by
          rw [hD, drop_at ha, frs_cons, fr_head, hm]
          rfl
        obtain ⟨_, i0', i1, i2, i3⟩ := idx_at e1
        rw [ofNat_toNat _ hbl] at i3
        rw [hfl] at hnx
        clear e1 hm ha hD hTk hje hlt hfl Htake Hdrop
        generalize a.body.length = L at *
        generalize hSS : (frs (A.take j)).length = S at *
        have HSS := show Hid (_ = _) from hSS
        clear hSS
        obtain ⟨a12, hc1, b1', b2', hc2, hL1, s1, s2, s3, t1, t2, t3, bb1, bb2⟩ := rb_nums2 S L n h12 hnx hn2 hbl
        have HY := show Hid (_ ∧ _ ∧ _) from ⟨b1', b2', hc2⟩
        have HZ := show Hid (_ ∧ _ ∧ _ ∧ _ ∧ _ ∧ _ ∧ _ ∧ _ ∧ _ ∧ _ ∧ _ ∧ _ ∧ _) from ⟨i0', i1, i2, i3, s1, s2, s3, t1, t2, t3, bb1, bb2, hL1⟩
        clear h12 hnx b1' b2' hc2 bb1 bb2 i0' i1 i2 i3 s1 s2 s3 t1 t2 t3 hL1
        go_upto_block 2 with fail
        go_cut [5] (fun ev wx => ev = .int .i64 (L : Int) ∧ w5 = wx)
        case first =>
          clear own own' hb5 HY HSS HLK HE HTk KP hA
          go_wp2_with fail
          go_loopw [5, 6] (fun ev iv wv => ∃ q : Nat, q ≤ 4 ∧ iv = .int .i64 q ∧ ev = .int .i64 (if q = 4 then (L : Int) else 0) ∧ w5 = wv) (fun _ iv _ => 4 - (intOf iv).toNat)
          case atStart => exact ⟨0, by omega, rfl, rfl, rfl⟩
          case round =>
            obtain ⟨q, hq, rfl, rfl, rfl⟩ := hrel
            rcases (show q = 0 ∨ q = 1 ∨ q = 2 ∨ q = 3 ∨ q = 4 by omega) with rfl | rfl | rfl | rfl | rfl
            · simp only [Nat.reduceEqDiff, if_false]
              obtain ⟨i0', _, _, _, _, _, _, _, _, _, bb1, bb2, _⟩ := HZ.out
              have bq : (S : Int) < (n : Int) := by omega
              clear HZ
              go_wp2
              exact ⟨⟨1, by omega, rfl, by simp, trivial⟩, by simp [intOf]⟩
            · simp only [Nat.reduceEqDiff, if_false]
              obtain ⟨_, i1, _, _, s1, _, _, t1, _, _, bb1, bb2, _⟩ := HZ.out
              have bq : (S : Int) + 1 < (n : Int) ∧ (0 : Int) ≤ (S : Int) + 1 := by omega
              clear HZ
              go_wp2
              exact ⟨⟨2, by omega, rfl, by simp, trivial⟩, by simp [intOf]⟩
            · simp only [Nat.reduceEqDiff, if_false]
              obtain ⟨_, _, i2, _, _, s2, _, _, t2, _, bb1, bb2, _⟩ := HZ.out
              have bq : (S : Int) + 2 < (n : Int) ∧ (0 : Int) ≤ (S : Int) + 2 := by omega
              clear HZ
              go_wp2
              exact ⟨⟨3, by omega, rfl, by simp, trivial⟩, by simp [intOf]⟩
            · simp only [Nat.reduceEqDiff, if_false]
              obtain ⟨_, _, _, i3, _, _, s3, _, _, t3, bb1, bb2, hL1⟩ := HZ.out
              have bq : (S : Int) + 3 < (n : Int) ∧ (0 : Int) ≤ (S : Int) + 3 := by omega
              clear HZ hL1
              have hL3 := wrapI (L : Int) (by omega) (by omega)
              have hL4 : (L : Int) ≤ 255 := by omega
              clear bb1 bb2 hfit hsm hwl hn2 hj hbl a12 hc1
              go_wp2
              exact ⟨⟨4, by omega, rfl, by simp, trivial⟩, by simp [intOf]⟩
            simp only [if_true]
            go_wp2_with fail
            go_meet
            case rel => exact ⟨rfl, rfl⟩
        case rest =>
          obtain ⟨rfl, hwc⟩ := hcut
          subst hwc
          obtain ⟨b1', b2', hc2⟩ := HY.out
          clear HY HZ
          have hSn : (0 : Int) ≤ (S : Int) ∧ (S : Int) ≤ (n : Int) := by omega
          have hexS := ext_take B S
          go_upto_region 18 with fail
          have f0 := kB.frozen 0
          have k6 : Blk (w5.setCell ⟨rb, 0, none⟩ (.string ⟨(B.take S).toArray⟩)) rb #[.string ⟨(B.take S).toArray⟩, .int .i64 (sf2 : Int), .int .i64 lf2, .int .i64 kp2, .bool false] 27 := kB.set 0 (.string ⟨(B.take S).toArray⟩)
          have x1 := (k6.cell 1).trans rfl
          have f1 := k6.frozen 1
          have z6 := k6.lt
          have k7 : Blk ((w5.setCell ⟨rb, 0, none⟩ (.string ⟨(B.take S).toArray⟩)).setCell ⟨rb, 1, none⟩ (.int .i64 (S : Int))) rb #[.string ⟨(B.take S).toArray⟩, .int .i64 (S : Int), .int .i64 lf2, .int .i64 kp2, .bool false] 27 := k6.set 1 (.int .i64 (S : Int))
          have Bx := (but_set w5 rb 0 (.string ⟨(B.take S).toArray⟩)).trans (but_set (w5.setCell ⟨rb, 0, none⟩ (.string ⟨(B.take S).toArray⟩)) rb 1 (.int .i64 (S : Int)))
          have hrw := k2.lt
          have o7 := Bx.owns own' (fun g hg e => by have := (own.lt g hg).1; omega)
          have B7 := (B1.trans (But.of_below (S := fun k => k = rb) hb5)).trans Bx
          clear own own' kB hb5 B1 Bx
          go_wp2
          go_ret
          refine ⟨rv, lf2, kp2, rfl, ?_, ?_, HLK.out.1, HLK.out.2, B7⟩
          · rw [HE.out]
            exact o7
          · rw [HE.out, HSS.out, ← HTk.out]
            exact k7
      · clear hD hTk hje hlt Htake Hdrop
        generalize hSS : (frs (A.take j)).length = S at *
        have HSS := show Hid (_ = _) from hSS
        clear hSS
        have a12 := wrapI ((S : Int) + 12) (by omega) (by omega)
        have hc1 : ¬ (S : Int) + 12 ≤ (n : Int) := by omega
        have hSn : (0 : Int) ≤ (S : Int) ∧ (S : Int) ≤ (n : Int) := by omega
        have hexS := ext_take B S
        go_upto_region 18 with fail
        have f0 := kB.frozen 0
        have k6 : Blk (w5.setCell ⟨rb, 0, none⟩ (.string ⟨(B.take S).toArray⟩)) rb #[.string ⟨(B.take S).toArray⟩, .int .i64 (sf2 : Int), .int .i64 lf2, .int .i64 kp2, .bool false] 27 := kB.set 0 (.string ⟨(B.take S).toArray⟩)
        have x1 := (k6.cell 1).trans rfl
        have f1 := k6.frozen 1
        have z6 := k6.lt
        have k7 : Blk ((w5.setCell ⟨rb, 0, none⟩ (.string ⟨(B.take S).toArray⟩)).setCell ⟨rb, 1, none⟩ (.int .i64 (S : Int))) rb #[.string ⟨(B.take S).toArray⟩, .int .i64 (S : Int), .int .i64 lf2, .int .i64 kp2, .bool false] 27 := k6.set 1 (.int .i64 (S : Int))
        have Bx := (but_set w5 rb 0 (.string ⟨(B.take S).toArray⟩)).trans (but_set (w5.setCell ⟨rb, 0, none⟩ (.string ⟨(B.take S).toArray⟩)) rb 1 (.int .i64 (S : Int)))
        have hrw := k2.lt
        have o7 := Bx.owns own' (fun g hg e => by have := (own.lt g hg).1; omega)
        have B7 := (B1.trans (But.of_below (S := fun k => k = rb) hb5)).trans Bx
        clear own own' kB hb5 B1 Bx
        go_wp2
        go_ret
        refine ⟨rv, lf2, kp2, rfl, ?_, ?_, HLK.out.1, HLK.out.2, B7⟩
        · rw [HE.out]
          exact o7
        · rw [HE.out, HSS.out, ← HTk.out]
          exact k7
end Go.Proofs.YtaifkidpdmhciaaGreat
