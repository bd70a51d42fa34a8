/- Frames of votes, one behind the other, and how many of them are whole. -/
import Derived.Test.YtaifkidpdmhciaaGreatERead
import Derived.Deep.AppendLies

namespace Go.Proofs.YtaifkidpdmhciaaGreat
open Go.RowKit
set_option linter.unusedVariables false
set_option linter.unusedSimpArgs false

/-- A vote. -/
structure Vk where
  h : Int
  r : Int
  s : Int
  has : Bool
  bl : Int
  f : Int
def Vk.Ok (v : Vk) : Prop := (0 ≤ v.h ∧ v.h ≤ 1099511627775) ∧ (0 ≤ v.r ∧ v.r ≤ 1099511627775) ∧ (0 ≤ v.s ∧ v.s ≤ 1099511627775) ∧ (0 ≤ v.bl ∧ v.bl ≤ 18446744073709551615) ∧ (0 ≤ v.f ∧ v.f ≤ 1099511627775) ∧ mayVoteP v.s v.has v.bl v.f = true
def Vk.body (v : Vk) : List UInt8 := recBy v.h v.r v.s v.has v.bl v.f
noncomputable def Vk.fr (v : Vk) : List UInt8 := frB v.body
def Vk.rc (v : Vk) : Array Value := RC v.h v.r v.s v.has v.bl v.f
noncomputable def frs (A : List Vk) : List UInt8 := A.flatMap Vk.fr
def flatR (A : List Vk) : List Value := A.flatMap fun v => v.rc.toList
theorem body_len (v : Vk) : v.body.length < 256 := by
  have h1 := numB_len 1
  have h2 := numB_len v.f
  have h3 := encs_len [(0, v.h), (0, v.r), (0, v.s)]
  have h4 := be_len v.bl 8
  simp only [Vk.body, recBy, voteBy, List.length_append, flagB, List.length_cons, List.length_nil] at *
  omega
theorem fr_len (v : Vk) : v.fr.length = 12 + v.body.length := frB_len _
theorem be4 (L : Nat) (h : L < 256) : be (L : Int) 4 = [0, 0, 0, UInt8.ofNat L] := by
  have e1 : ((L : Int) / 256 ^ 3) = 0 := by omega
  have e2 : ((L : Int) / 256 ^ 2) = 0 := by omega
  have e3 : ((L : Int) / 256 ^ 1) = 0 := by omega
  have e4 : ((L : Int) / 256 ^ 0) = (L : Int) := by simp
  simp only [be, e1, e2, e3, e4, byteAt]
  have : ((L : Int) % 256).toNat = L := by omega
  rw [this]; rfl
theorem fr_head (v : Vk) : v.fr = 0 :: 0 :: 0 :: UInt8.ofNat v.body.length :: (be (dg v.body) 8 ++ v.body) := by
  unfold Vk.fr frB
  rw [be4 _ (body_len v)]; rfl
theorem frs_nil : frs [] = [] := rfl
theorem frs_cons (a : Vk) (r : List Vk) : frs (a :: r) = a.fr ++ frs r := by simp [frs]
theorem frs_app (A B : List Vk) : frs (A ++ B) = frs A ++ frs B := by simp [frs]
theorem frs_len_take (A : List Vk) (k : Nat) : (frs (A.take k)).length ≤ (frs A).length := by
  have h : frs A = frs (A.take k) ++ frs (A.drop k) := by rw [← frs_app, List.take_append_drop]
  rw [h, List.length_append]; omega
theorem frs_small (A : List Vk) : (frs A).length ≤ 268 * A.length := by
  induction A with
  | nil => simp [frs]
  | cons a r ih =>
    have h := body_len a
    rw [frs_cons, List.length_append, fr_len, List.length_cons]
    omega
/-- So many of the frames are whole in n bytes. -/
noncomputable def whole : List Vk → Nat → Nat
  | [], _ => 0
  | a :: r, n => if a.fr.length ≤ n then whole r (n - a.fr.length) + 1 else 0
theorem whole_le : ∀ (A : List Vk) (n : Nat), whole A n ≤ A.length
  | [], _ => Nat.le_refl _
  | a :: r, n => by
    unfold whole
    split
    · have := whole_le r (n - a.fr.length); simp; omega
    · simp
theorem whole_fits : ∀ (A : List Vk) (n : Nat), (frs (A.take (whole A n))).length ≤ n
  | [], _ => by simp [whole, frs]
  | a :: r, n => by
    unfold whole
    split
    · have := whole_fits r (n - a.fr.length)
      rw [List.take_succ_cons, frs_cons, List.length_append]; omega
    · simp [frs]
theorem whole_next : ∀ (A : List Vk) (n : Nat) (a : Vk), A[whole A n]? = some a → n < (frs (A.take (whole A n))).length + a.fr.length
  | [], n, a, h => by simp [whole] at h
  | b :: r, n, a, h => by
    unfold whole at h ⊢
    split
    · rename_i hle
      rw [if_pos hle] at h
      rw [List.getElem?_cons_succ] at h
      have := whole_next r (n - b.fr.length) a h
      rw [List.take_succ_cons, frs_cons, List.length_append]; omega
    · rename_i hle
      rw [if_neg hle] at h
      simp at h
      subst h
      simp [frs]; omega
theorem whole_ge : ∀ (A : List Vk) (n k : Nat), k ≤ A.length → (frs (A.take k)).length ≤ n → k ≤ whole A n
  | [], n, k, hk, _ => by simp at hk; omega
  | a :: r, n, 0, _, _ => Nat.zero_le _
  | a :: r, n, k + 1, hk, h => by
    rw [List.take_succ_cons, frs_cons, List.length_append] at h
    unfold whole
    rw [if_pos (by omega)]
    have := whole_ge r (n - a.fr.length) k (by simpa using hk) (by omega)
    omega
theorem whole_at (A : List Vk) (n j : Nat) (hj : j < whole A n) (a : Vk) (ha : A[j]? = some a) : (frs (A.take j)).length + a.fr.length ≤ n := by
  have h1 := whole_fits A n
  have h2 : (frs (A.take (j + 1))).length ≤ (frs (A.take (whole A n))).length := by
    have := frs_len_take (A.take (whole A n)) (j + 1)
    rw [List.take_take, Nat.min_eq_left (by omega)] at this
    exact this
  have h3 : A.take (j + 1) = A.take j ++ [a] := by
    have hlt := (List.getElem?_eq_some_iff.1 ha)
    obtain ⟨hl, he⟩ := hlt
    rw [List.take_succ_eq_append_getElem hl, he]
  rw [h3, frs_app, List.length_append, frs_cons, frs_nil, List.append_nil] at h2
  omega
/-- What stands behind the first j frames. -/
theorem drop_frs (A : List Vk) (n j : Nat) : ((frs A).take n).drop (frs (A.take j)).length = (frs (A.drop j)).take (n - (frs (A.take j)).length) := by
  have h : frs A = frs (A.take j) ++ frs (A.drop j) := by rw [← frs_app, List.take_append_drop]
  rw [List.drop_take]
  congr 1
  conv => lhs; rw [h]
  rw [List.drop_left]
theorem drop_at {A : List Vk} {j : Nat} {a : Vk} (h : A[j]? = some a) : A.drop j = a :: A.drop (j + 1) := by
  obtain ⟨hl, he⟩ := List.getElem?_eq_some_iff.1 h
  rw [List.drop_eq_getElem_cons hl, he]
theorem flatR_len (A : List Vk) : (flatR A).length = A.length * 38 := by
  induction A with
  | nil => rfl
  | cons a r ih =>
    have : a.rc.toList.length = 38 := rfl
    simp only [flatR, List.flatMap_cons, List.length_append, List.length_cons] at ih ⊢
    omega
theorem flatR_snoc (A : List Vk) (a : Vk) : flatR (A ++ [a]) = flatR A ++ a.rc.toList := by simp [flatR]

/-- What a reading of a frame gives, whatever is there. -/
theorem readFrame_at (s : List UInt8) (c : UInt8) (t : List UInt8) (hs : s = 0 :: 0 :: 0 :: c :: t) : (∀ h : 0 < (⟨s.toArray⟩ : ByteArray).size, ((⟨s.toArray⟩ : ByteArray)[0]'h).toNat = 0) ∧ (∀ h : 1 < (⟨s.toArray⟩ : ByteArray).size, ((⟨s.toArray⟩ : ByteArray)[1]'h).toNat = 0) ∧ (∀ h : 2 < (⟨s.toArray⟩ : ByteArray).size, ((⟨s.toArray⟩ : ByteArray)[2]'h).toNat = 0) ∧ (∀ h : 3 < (⟨s.toArray⟩ : ByteArray).size, ((⟨s.toArray⟩ : ByteArray)[3]'h).toNat = c.toNat) := by
  subst hs
  exact ⟨fun h => rfl, fun h => rfl, fun h => rfl, fun h => rfl⟩
theorem ofNat_toNat (L : Nat) (h : L < 256) : (UInt8.ofNat L).toNat = L := by rw [UInt8.toNat_ofNat']; omega
theorem read_whole (a : Vk) (ha : a.Ok) (r : List UInt8) (w : World) (hr : r.length ≤ 1000000) :
    Calls Tryz.prog 27 #[.string ⟨(a.fr ++ r).toArray⟩] w fun e w' => e = .returned (.tuple #[.agg a.rc, .int .i64 (a.fr.length : Nat)]) ∧ Below w.heap.size w w' := by
  have hb := body_len a
  have hl := fr_len a
  obtain ⟨x0, x1, x2, x3⟩ := readFrame_at (a.fr ++ r) (UInt8.ofNat a.body.length) ((be (dg a.body) 8 ++ a.body) ++ r) (by rw [fr_head]; rfl)
  rw [ofNat_toNat _ hb] at x3
  have h := readFrame_full (a.fr ++ r) a.body.length w (by rw [List.length_append]; omega) (by rw [List.length_append]; omega) hb x0 x1 x2 x3 a.body r a.h a.r a.s a.has a.bl a.f rfl rfl rfl ha.1 ha.2.1 ha.2.2.1 ha.2.2.2.1 ha.2.2.2.2.1 ha.2.2.2.2.2
  rw [← hl] at h
  exact h
theorem read_torn (a : Vk) (n : Nat) (r : List UInt8) (w : World) (hn : n < a.fr.length) :
    Calls Tryz.prog 27 #[.string ⟨((a.fr ++ r).take n).toArray⟩] w fun e w' => e = .returned (.tuple #[.agg RZ, .int .i64 0]) ∧ Below w.heap.size w w' := by
  have hb := body_len a
  have hl := fr_len a
  have e : (a.fr ++ r).take n = a.fr.take n := List.take_append_of_le_length (by omega)
  rw [e]
  have hlen : (a.fr.take n).length = n := by rw [List.length_take]; omega
  by_cases h12 : n < 12
  · exact readFrame_few _ w (by omega)
  · obtain ⟨x0, x1, x2, x3⟩ := readFrame_at (a.fr.take n) (UInt8.ofNat a.body.length) ((be (dg a.body) 8 ++ a.body).take (n - 4)) (by
      obtain ⟨m, rfl⟩ : ∃ m, n = m + 4 := ⟨n - 4, by omega⟩
      rw [fr_head]
      simp)
    rw [ofNat_toNat _ hb] at x3
    exact readFrame_torn _ a.body.length w (by omega) (by omega) hb x0 x1 x2 x3 (by omega)
end Go.Proofs.YtaifkidpdmhciaaGreat

namespace Go.Proofs.YtaifkidpdmhciaaGreat
open Go.RowKit
set_option linter.unusedVariables false
set_option linter.unusedSimpArgs false

theorem infoRec : (Tryz.prog.info? 57).map (fun i => (i.zero, i.size, i.bytes)) = some (some (.agg RZ), 38, 400) := by kernel_rfl
theorem fold_rc (h rd sg : Int) (has : Bool) (bl f : Int) : Array.foldl (fun (cs : Array Value) (x : Value × Nat) => cs.setIfInBounds x.snd x.fst) #[.int .i64 0, .int .i64 0, .int .i64 0, .int .i64 0, .bool false, .int .u64 0, .int .i64 0, .int .i64 0, .int .i64 0, .int .i64 0, .int .i64 0, .int .u64 0, .int .u64 0, .int .u64 0, .int .u64 0, .int .u64 0, .int .u64 0, .int .i64 0, .slice none 0 0, .slice none 0 0, .slice none 0 0, .int .i64 0, .int .i64 0, .int .i64 0, .bool false, .int .u64 0, .slice none 0 0, .int .i64 0, .int .i64 0, .int .u64 0, .int .u64 0, .int .u64 0, .int .u64 0, .int .u64 0, .int .u64 0, .int .i64 0, .slice none 0 0, .slice none 0 0] (RC h rd sg has bl f).zipIdx 0 38 = RC h rd sg has bl f := by kernel_rfl

set_option maxRecDepth 8000 in
set_option maxHeartbeats 3200000 in
theorem readAll_any (A : List Vk) (n : Nat) (w : World) (hA : ∀ a ∈ A, a.Ok) (hl : A.length ≤ 512) (hn : n ≤ (frs A).length) :
    Calls Tryz.prog 21 #[.string ⟨((frs A).take n).toArray⟩] w fun e w' => (∃ rv, e = .returned (.tuple #[rv, .int .i64 ((frs (A.take (whole A n))).length : Nat)]) ∧ w'.ownsRow w.heap.size 57 38 rv (whole A n) (flatR (A.take (whole A n)))) ∧ Below w.heap.size w w' := by
  obtain ⟨i0, hinf, hz0, hz1, hz2⟩ := info_parts infoRec
  have hsm := frs_small A
  have hsl : ((frs A).take n).length = n := by rw [List.length_take]; omega
  have sz := str_size' ((frs A).take n)
  rw [hsl] at sz
  have hwl := whole_le A n
  go_enter Tryz.func21, Tryz.ntmps21
  go_wp2_with fail
  go_loopw [2, 3, 4, 5] (fun rv sv _ _ w2 => ∃ j : Nat, j ≤ whole A n ∧ sv = .int .i64 ((frs (A.take j)).length : Nat) ∧ w2.ownsRow w.heap.size 57 38 rv j (flatR (A.take j)) ∧ Below w.heap.size w w2) (fun _ sv _ _ _ => n + 1 - (intOf sv).toNat)
  case atStart => exact ⟨0, Nat.zero_le _, rfl, World.ownsRow_nil _ _ _ _, Below.refl _ _⟩
  case round =>
    obtain ⟨j, hj, rfl, hown, hb⟩ := hrel
    generalize u2 = rv at *
    have hfit : (frs (A.take j)).length ≤ n := by
      have h1 := whole_fits A n
      have h2 := frs_len_take (A.take (whole A n)) j
      rw [List.take_take, Nat.min_eq_left hj] at h2
      omega
    have hex : (⟨((frs A).take n).toArray⟩ : ByteArray).extract (frs (A.take j)).length n = ⟨((frs (A.drop j)).take (n - (frs (A.take j)).length)).toArray⟩ := by
      have h := ext_drop ((frs A).take n) (frs (A.take j)).length
      rw [hsl, drop_frs] at h
      exact h
    by_cases hlt : j < whole A n
    · obtain ⟨a, ha⟩ : ∃ a, A[j]? = some a := ⟨_, List.getElem?_eq_getElem (show j < A.length by omega)⟩
      have hat := whole_at A n j hlt a ha
      have hok := hA a (List.mem_of_getElem? ha)
      have hfl := fr_len a
      have hbl := body_len a
      have e1 : (frs (A.drop j)).take (n - (frs (A.take j)).length) = a.fr ++ (frs (A.drop (j + 1))).take (n - (frs (A.take j)).length - a.fr.length) := by
        rw [drop_at ha, frs_cons, List.take_append, List.take_of_length_le (by omega)]
      rw [e1] at hex
      have KX := fun w' => read_whole a hok ((frs (A.drop (j + 1))).take (n - (frs (A.take j)).length - a.fr.length)) w' (by rw [List.length_take]; omega)
      have htk : A.take (j + 1) = A.take j ++ [a] := by
        obtain ⟨hl', he⟩ := List.getElem?_eq_some_iff.1 ha
        rw [List.take_succ_eq_append_getElem hl', he]
      have Hnext : Hid ((frs (A.take (j + 1))).length = (frs (A.take j)).length + a.fr.length ∧ flatR (A.take (j + 1)) = flatR (A.take j) ++ a.rc.toList ∧ True) := by
        refine ⟨by rw [htk, frs_app, List.length_append, frs_cons, frs_nil, List.append_nil], by rw [htk, flatR_snoc], trivial⟩
      have hCn : a.rc.size = 38 := rfl
      have hC1 : a.rc.all (·.oneCell') = true := RC_one _ _ _ _ _ _
      have hfold : Array.foldl (fun (cs : Array Value) (x : Value × Nat) => cs.setIfInBounds x.snd x.fst) #[.int .i64 0, .int .i64 0, .int .i64 0, .int .i64 0, .bool false, .int .u64 0, .int .i64 0, .int .i64 0, .int .i64 0, .int .i64 0, .int .i64 0, .int .u64 0, .int .u64 0, .int .u64 0, .int .u64 0, .int .u64 0, .int .u64 0, .int .i64 0, .slice none 0 0, .slice none 0 0, .slice none 0 0, .int .i64 0, .int .i64 0, .int .i64 0, .bool false, .int .u64 0, .slice none 0 0, .int .i64 0, .int .i64 0, .int .u64 0, .int .u64 0, .int .u64 0, .int .u64 0, .int .u64 0, .int .u64 0, .int .i64 0, .slice none 0 0, .slice none 0 0] a.rc.zipIdx 0 38 = a.rc := fold_rc _ _ _ _ _ _
      have hone : ∀ u ∈ a.rc.toList, u.oneCell' = true := fun u hu => (Array.all_eq_true_iff_forall_mem.1 hC1) u (by simpa using hu)
      clear e1 htk hok ha
      generalize a.fr ++ (frs (A.drop (j + 1))).take (n - (frs (A.take j)).length - a.fr.length) = T at *
      generalize a.rc = C at *
      generalize a.fr = F at *
      generalize (frs (A.take j)).length = S at *
      generalize F.length = FL at *
      have hFL : 0 < FL ∧ FL ≤ 268 := by omega
      clear hfl hbl
      have hS0 : (0 : Int) ≤ (S : Int) ∧ (S : Int) ≤ (n : Int) := by omega
      have hfn : (((FL : Nat) : Int) == 0) = false := by simp; omega
      have hsum : IntKind.i64.wrap ((S : Int) + (FL : Int)) = (S : Int) + (FL : Int) := wrapI _ (by omega) (by omega)
      go_upto_region 1 with fail
      refine wp_region_list ?_
      refine wpList_plain rfl (fun K hK => ?_)
      go_simp
      refine hK _ _ ?_
      clear hK K
      refine wpList_plain rfl (fun K hK => ?_)
      go_simp
      refine hK _ _ ?_
      clear hK K
      refine wpList_plain rfl (fun K hK => ?_)
      go_simp
      refine hK _ _ ?_
      clear hK K
      refine wpList_on (by kernel_rfl) (fun K hK => ?_)
      go_simp
      refine (KX wr).mono ?_
      rintro e w3 ⟨rfl, b3⟩
      refine hK _ _ ?_
      clear hK K
      refine wpList_plain rfl (fun K hK => ?_)
      go_simp
      refine hK _ _ ?_
      clear hK K
      refine wpList_plain rfl (fun K hK => ?_)
      go_simp
      refine hK _ _ ?_
      clear hK K
      refine wpList_plain rfl (fun K hK => ?_)
      go_simp
      refine hK _ _ ?_
      clear hK K
      refine wpList_plain rfl (fun K hK => ?_)
      go_simp
      refine hK _ _ ?_
      clear hK K
      have kN := Blk.new w3 #[.int .i64 0, .int .i64 0, .int .i64 0, .int .i64 0, .bool false, .int .u64 0, .int .i64 0, .int .i64 0, .int .i64 0, .int .i64 0, .int .i64 0, .int .u64 0, .int .u64 0, .int .u64 0, .int .u64 0, .int .u64 0, .int .u64 0, .int .i64 0, .slice none 0 0, .slice none 0 0, .slice none 0 0, .int .i64 0, .int .i64 0, .int .i64 0, .bool false, .int .u64 0, .slice none 0 0, .int .i64 0, .int .i64 0, .int .u64 0, .int .u64 0, .int .u64 0, .int .u64 0, .int .u64 0, .int .u64 0, .int .i64 0, .slice none 0 0, .slice none 0 0] 57
      have own3 := owns_below hown b3
      have own4 := own3.alloc (.cells #[.int .i64 0, .int .i64 0, .int .i64 0, .int .i64 0, .bool false, .int .u64 0, .int .i64 0, .int .i64 0, .int .i64 0, .int .i64 0, .int .i64 0, .int .u64 0, .int .u64 0, .int .u64 0, .int .u64 0, .int .u64 0, .int .u64 0, .int .i64 0, .slice none 0 0, .slice none 0 0, .slice none 0 0, .int .i64 0, .int .i64 0, .int .i64 0, .bool false, .int .u64 0, .slice none 0 0, .int .i64 0, .int .i64 0, .int .u64 0, .int .u64 0, .int .u64 0, .int .u64 0, .int .u64 0, .int .u64 0, .int .i64 0, .slice none 0 0, .slice none 0 0] 57)
      have B3 := hb.trans (b3.mono hb.size)
      have B4 := B3.alloc B3.size (.cells #[.int .i64 0, .int .i64 0, .int .i64 0, .int .i64 0, .bool false, .int .u64 0, .int .i64 0, .int .i64 0, .int .i64 0, .int .i64 0, .int .i64 0, .int .u64 0, .int .u64 0, .int .u64 0, .int .u64 0, .int .u64 0, .int .u64 0, .int .i64 0, .slice none 0 0, .slice none 0 0, .slice none 0 0, .int .i64 0, .int .i64 0, .int .i64 0, .bool false, .int .u64 0, .slice none 0 0, .int .i64 0, .int .i64 0, .int .u64 0, .int .u64 0, .int .u64 0, .int .u64 0, .int .u64 0, .int .u64 0, .int .i64 0, .slice none 0 0, .slice none 0 0] 57)
      have hz3 := b3.size
      clear b3 KX own3
      generalize w3.alloc (.cells #[.int .i64 0, .int .i64 0, .int .i64 0, .int .i64 0, .bool false, .int .u64 0, .int .i64 0, .int .i64 0, .int .i64 0, .int .i64 0, .int .i64 0, .int .u64 0, .int .u64 0, .int .u64 0, .int .u64 0, .int .u64 0, .int .u64 0, .int .i64 0, .slice none 0 0, .slice none 0 0, .slice none 0 0, .int .i64 0, .int .i64 0, .int .i64 0, .bool false, .int .u64 0, .slice none 0 0, .int .i64 0, .int .i64 0, .int .u64 0, .int .u64 0, .int .u64 0, .int .u64 0, .int .u64 0, .int .u64 0, .int .i64 0, .slice none 0 0, .slice none 0 0] 57) = w4 at *
      generalize w3.heap.size = nb at *
      refine wpList_store_mid rfl 57 _ _ rfl nb 0 C rfl rfl (kN.there _ (by rw [hCn]; decide)) (by rw [hCn]; kernel_rfl) hC1 ?_
      refine wpList_plain rfl (fun K hK => ?_)
      go_simp
      refine hK _ _ ?_
      clear hK K
      refine wpList_nil ?_
      simp only [Exit.then]
      have hR4 := World.rangeAt_setCells_same w4 nb 0 C.toList (kN.there _ (by rw [Array.length_toList, hCn]; decide))
      have hBt := but_setCells nb C.toList 0 w4
      have hB4 := hBt.below (B := w.heap.size) B4.size (fun k hk => by have := hb.size; omega)
      have own5 : (w4.setCells nb 0 C.toList).ownsRow w.heap.size 57 38 rv j (flatR (A.take j)) := hBt.owns own4 (fun g hg e => by have := (hown.lt g hg).2; omega)
      generalize w4.setCells nb 0 C.toList = w5 at *
      have B5 := B4.trans hB4
      clear kN B3 B4 hBt hB4 own4
      go_upto_region 4 with fail
      refine wp_region_list ?_
      refine wpList_plain rfl (fun K hK => ?_)
      go_simp
      refine hK _ _ ?_
      clear hK K
      refine wpList_load_mid rfl 57 _ rfl nb 0 rfl C.toList _ hR4 Tryz.underlying57 rfl (by rw [Array.length_toList, hCn]; kernel_rfl) ?_
      rw [Array.toArray_toList]
      refine wpList_plain rfl (fun K hK => ?_)
      go_simp
      refine hK _ _ ?_
      clear hK K
      have kB := Blk.new w5 C 57
      have own6 := own5.alloc (.cells C 57)
      have B6 := B5.alloc B5.size (.cells C 57)
      have hz6 : (w5.alloc (.cells C 57)).heap.size = w5.heap.size + 1 := by simp
      have hrb : ∀ g, rv.ownBlock = some g → w.heap.size ≤ g := fun g hg => (own5.lt g hg).1
      clear own5 B5
      generalize w5.alloc (.cells C 57) = w6 at *
      refine wpList_append_lies _ rfl _ _ 39 rfl w.heap.size 57 i0 (.agg RZ) 38 400 Tryz.underlying39 hinf hz0 hz1 hz2 rfl (by omega) rv j _ rfl own6 ⟨w5.heap.size, 0, none⟩ 1 1 C.toList rfl (by rw [Array.length_toList, hCn]) (fun q u hu => by
        rw [Addr.add_mid, Nat.zero_add, kB.cell]
        simpa using hu) hone (by omega) (by unfold maxLen; omega) (by omega) B6.size _ rfl ?_
      intro g cap w7 own7 hg7 hat7 hlt7
      have B7 := B6.grown hg7 B6.size (fun k e => hrb k e)
      refine wpList_plain rfl (fun K hK => ?_)
      go_simp
      refine hK _ _ ?_
      clear hK K
      refine wpList_nil ?_
      simp only [Exit.then]
      have own8 : w7.ownsRow w.heap.size 57 38 (.slice (some ⟨g, 0, none⟩) (j + 1) cap) (j + 1) (flatR (A.take (j + 1))) := by
        rw [Hnext.out.2.1]
        exact own7
      clear own6 own7 kB hg7 hat7
      go_wp2
      refine ⟨⟨j + 1, by omega, ?_, own8, B7⟩, ?_⟩
      · rw [Hnext.out.1]; push_cast; rfl
      · simp [intOf]; omega
    · have hje : j = whole A n := by omega
      have KX : ∀ w', Calls Tryz.prog 27 #[.string ⟨((frs (A.drop j)).take (n - (frs (A.take j)).length)).toArray⟩] w' fun e w'' => e = .returned (.tuple #[.agg RZ, .int .i64 0]) ∧ Below w'.heap.size w' w'' := fun w' => by
        by_cases hend : j < A.length
        · obtain ⟨a, ha⟩ : ∃ a, A[j]? = some a := ⟨_, List.getElem?_eq_getElem hend⟩
          rw [drop_at ha, frs_cons]
          refine read_torn a _ _ w' ?_
          have := whole_next A n a (by rw [← hje]; exact ha)
          rw [← hje] at this
          omega
        · rw [List.drop_of_length_le (by omega), frs_nil]
          exact readFrame_few _ w' (by simp)
      have HE : Hid (whole A n = j) := hje.symm
      have hCn : RZ.size = 38 := rfl
      have hC1 := RZ_one
      clear hje hlt
      generalize hSS : (frs (A.take j)).length = S at *
      have HS := show Hid (_ = _) from hSS
      clear hSS
      generalize (frs (A.drop j)).take (n - S) = T at *
      have hS0 : (0 : Int) ≤ (S : Int) ∧ (S : Int) ≤ (n : Int) := by omega
      generalize hCC : RZ = C at *
      clear hCC
      go_upto_region 1 with fail
      refine wp_region_list ?_
      refine wpList_plain rfl (fun K hK => ?_)
      go_simp
      refine hK _ _ ?_
      clear hK K
      refine wpList_plain rfl (fun K hK => ?_)
      go_simp
      refine hK _ _ ?_
      clear hK K
      refine wpList_plain rfl (fun K hK => ?_)
      go_simp
      refine hK _ _ ?_
      clear hK K
      refine wpList_on (by kernel_rfl) (fun K hK => ?_)
      go_simp
      refine (KX wr).mono ?_
      rintro e w3 ⟨rfl, b3⟩
      refine hK _ _ ?_
      clear hK K
      refine wpList_plain rfl (fun K hK => ?_)
      go_simp
      refine hK _ _ ?_
      clear hK K
      refine wpList_plain rfl (fun K hK => ?_)
      go_simp
      refine hK _ _ ?_
      clear hK K
      refine wpList_plain rfl (fun K hK => ?_)
      go_simp
      refine hK _ _ ?_
      clear hK K
      refine wpList_plain rfl (fun K hK => ?_)
      go_simp
      refine hK _ _ ?_
      clear hK K
      have kN := Blk.new w3 #[.int .i64 0, .int .i64 0, .int .i64 0, .int .i64 0, .bool false, .int .u64 0, .int .i64 0, .int .i64 0, .int .i64 0, .int .i64 0, .int .i64 0, .int .u64 0, .int .u64 0, .int .u64 0, .int .u64 0, .int .u64 0, .int .u64 0, .int .i64 0, .slice none 0 0, .slice none 0 0, .slice none 0 0, .int .i64 0, .int .i64 0, .int .i64 0, .bool false, .int .u64 0, .slice none 0 0, .int .i64 0, .int .i64 0, .int .u64 0, .int .u64 0, .int .u64 0, .int .u64 0, .int .u64 0, .int .u64 0, .int .i64 0, .slice none 0 0, .slice none 0 0] 57
      have own3 := owns_below hown b3
      have own4 := own3.alloc (.cells #[.int .i64 0, .int .i64 0, .int .i64 0, .int .i64 0, .bool false, .int .u64 0, .int .i64 0, .int .i64 0, .int .i64 0, .int .i64 0, .int .i64 0, .int .u64 0, .int .u64 0, .int .u64 0, .int .u64 0, .int .u64 0, .int .u64 0, .int .i64 0, .slice none 0 0, .slice none 0 0, .slice none 0 0, .int .i64 0, .int .i64 0, .int .i64 0, .bool false, .int .u64 0, .slice none 0 0, .int .i64 0, .int .i64 0, .int .u64 0, .int .u64 0, .int .u64 0, .int .u64 0, .int .u64 0, .int .u64 0, .int .i64 0, .slice none 0 0, .slice none 0 0] 57)
      have B3 := hb.trans (b3.mono hb.size)
      have B4 := B3.alloc B3.size (.cells #[.int .i64 0, .int .i64 0, .int .i64 0, .int .i64 0, .bool false, .int .u64 0, .int .i64 0, .int .i64 0, .int .i64 0, .int .i64 0, .int .i64 0, .int .u64 0, .int .u64 0, .int .u64 0, .int .u64 0, .int .u64 0, .int .u64 0, .int .i64 0, .slice none 0 0, .slice none 0 0, .slice none 0 0, .int .i64 0, .int .i64 0, .int .i64 0, .bool false, .int .u64 0, .slice none 0 0, .int .i64 0, .int .i64 0, .int .u64 0, .int .u64 0, .int .u64 0, .int .u64 0, .int .u64 0, .int .u64 0, .int .i64 0, .slice none 0 0, .slice none 0 0] 57)
      have hz3 := b3.size
      clear b3 KX own3
      generalize w3.alloc (.cells #[.int .i64 0, .int .i64 0, .int .i64 0, .int .i64 0, .bool false, .int .u64 0, .int .i64 0, .int .i64 0, .int .i64 0, .int .i64 0, .int .i64 0, .int .u64 0, .int .u64 0, .int .u64 0, .int .u64 0, .int .u64 0, .int .u64 0, .int .i64 0, .slice none 0 0, .slice none 0 0, .slice none 0 0, .int .i64 0, .int .i64 0, .int .i64 0, .bool false, .int .u64 0, .slice none 0 0, .int .i64 0, .int .i64 0, .int .u64 0, .int .u64 0, .int .u64 0, .int .u64 0, .int .u64 0, .int .u64 0, .int .i64 0, .slice none 0 0, .slice none 0 0] 57) = w4 at *
      generalize w3.heap.size = nb at *
      refine wpList_store_mid rfl 57 _ _ rfl nb 0 C rfl rfl (kN.there _ (by rw [hCn]; decide)) (by rw [hCn]; kernel_rfl) hC1 ?_
      refine wpList_plain rfl (fun K hK => ?_)
      go_simp
      refine hK _ _ ?_
      clear hK K
      refine wpList_nil ?_
      simp only [Exit.then]
      have hR4 := World.rangeAt_setCells_same w4 nb 0 C.toList (kN.there _ (by rw [Array.length_toList, hCn]; decide))
      have hBt := but_setCells nb C.toList 0 w4
      have hB4 := hBt.below (B := w.heap.size) B4.size (fun k hk => by have := hb.size; omega)
      have own5 : (w4.setCells nb 0 C.toList).ownsRow w.heap.size 57 38 rv j (flatR (A.take j)) := hBt.owns own4 (fun g hg e => by have := (hown.lt g hg).2; omega)
      generalize w4.setCells nb 0 C.toList = w5 at *
      have B5 := B4.trans hB4
      clear kN B3 B4 hBt hB4 own4
      go_wp2
      go_ret2
      refine ⟨⟨rv, by rw [HE.out, HS.out]; rfl, ?_⟩, B5⟩
      rw [HE.out]
      exact own5
end Go.Proofs.YtaifkidpdmhciaaGreat
