/- Frames of votes, one behind the other, and how many of them are whole. -/
import Derived.Test.YtaidiomaaldphaaQRead
namespace Go.Proofs.Ytaidiomaaldphaa
open Go.RowKit
set_option linter.unusedVariables false
set_option linter.unusedSimpArgs false

/-- A vote of the law: height, round, from. -/
structure Vk where
  h : Int
  r : Int
  f : Int
def Vk.Ok (v : Vk) : Prop := (0 ≤ v.h ∧ v.h ≤ 1099511627775) ∧ (0 ≤ v.r ∧ v.r ≤ 1099511627775) ∧ 1 ≤ v.f ∧ v.f ≤ 1099511627775
def Vk.body (v : Vk) : List UInt8 := recBy v.h v.r 1 false 0 v.f
noncomputable def Vk.fr (v : Vk) : List UInt8 := frB v.body
def Vk.rc (v : Vk) : Array Value := RC v.h v.r v.f
noncomputable def frs (A : List Vk) : List UInt8 := A.flatMap Vk.fr
def flatR (A : List Vk) : List Value := A.flatMap fun v => v.rc.toList
theorem body_len (v : Vk) : v.body.length < 256 := by
  have h1 := numB_len 1
  have h2 := numB_len v.f
  have h3 := encs_len [(0, v.h), (0, v.r), (0, 1)]
  have h4 := be_len 0 8
  simp only [Vk.body, recBy, voteBy, List.length_append, flagB, List.length_cons, List.length_nil] at *
  omega
theorem fr_len (v : Vk) : v.fr.length = 12 + v.body.length := frB_len _
theorem be4 (L : Nat) (h : L < 256) : be (L : Int) 4 = [0, 0, 0, UInt8.ofNat L] := by
  have e1 : ((L : Int) / 256 ^ 3) = 0 := by omega
  have e2 : ((L : Int) / 256 ^ 2) = 0 := by omega
  have e3 : ((L : Int) / 256 ^ 1) = 0 := by omega
  have e4 : ((L : Int) / 256 ^ 0) = (L : Int) := by simp
  simp only [be, e1, e2, e3, e4, byteAt]
  have : ((L : Int) % 256).toNat = L := by omega
  rw [this]; rfl
theorem fr_head (v : Vk) : v.fr = 0 :: 0 :: 0 :: UInt8.ofNat v.body.length :: (be (dg v.body) 8 ++ v.body) := by
  unfold Vk.fr frB
  rw [be4 _ (body_len v)]; rfl
theorem frs_nil : frs [] = [] := rfl
theorem frs_cons (a : Vk) (r : List Vk) : frs (a :: r) = a.fr ++ frs r := by simp [frs]
theorem frs_app (A B : List Vk) : frs (A ++ B) = frs A ++ frs B := by simp [frs]
theorem frs_len_take (A : List Vk) (k : Nat) : (frs (A.take k)).length ≤ (frs A).length := by
  have h : frs A = frs (A.take k) ++ frs (A.drop k) := by rw [← frs_app, List.take_append_drop]
  rw [h, List.length_append]; omega
theorem frs_small (A : List Vk) : (frs A).length ≤ 268 * A.length := by
  induction A with
  | nil => simp [frs]
  | cons a r ih =>
    have h := body_len a
    rw [frs_cons, List.length_append, fr_len, List.length_cons]
    omega
/-- So many of the frames are whole in n bytes. -/
noncomputable def whole : List Vk → Nat → Nat
  | [], _ => 0
  | a :: r, n => if a.fr.length ≤ n then whole r (n - a.fr.length) + 1 else 0
theorem whole_le : ∀ (A : List Vk) (n : Nat), whole A n ≤ A.length
  | [], _ => Nat.le_refl _
  | a :: r, n => by
    unfold whole
    split
    · have := whole_le r (n - a.fr.length); simp; omega
    · simp
theorem whole_fits : ∀ (A : List Vk) (n : Nat), (frs (A.take (whole A n))).length ≤ n
  | [], _ => by simp [whole, frs]
  | a :: r, n => by
    unfold whole
    split
    · have := whole_fits r (n - a.fr.length)
      rw [List.take_succ_cons, frs_cons, List.length_append]; omega
    · simp [frs]
theorem whole_next : ∀ (A : List Vk) (n : Nat) (a : Vk), A[whole A n]? = some a → n < (frs (A.take (whole A n))).length + a.fr.length
  | [], n, a, h => by simp [whole] at h
  | b :: r, n, a, h => by
    unfold whole at h ⊢
    split
    · rename_i hle
      rw [if_pos hle] at h
      rw [List.getElem?_cons_succ] at h
      have := whole_next r (n - b.fr.length) a h
      rw [List.take_succ_cons, frs_cons, List.length_append]; omega
    · rename_i hle
      rw [if_neg hle] at h
      simp at h
      subst h
      simp [frs]; omega
theorem whole_ge : ∀ (A : List Vk) (n k : Nat), k ≤ A.length → (frs (A.take k)).length ≤ n → k ≤ whole A n
  | [], n, k, hk, _ => by simp at hk; omega
  | a :: r, n, 0, _, _ => Nat.zero_le _
  | a :: r, n, k + 1, hk, h => by
    rw [List.take_succ_cons, frs_cons, List.length_append] at h
    unfold whole
    rw [if_pos (by omega)]
    have := whole_ge r (n - a.fr.length) k (by simpa using hk) (by omega)
    omega
theorem whole_at (A : List Vk) (n j : Nat) (hj : j < whole A n) (a : Vk) (ha : A[j]? = some a) : (frs (A.take j)).length + a.fr.length ≤ n := by
  have h1 := whole_fits A n
  have h2 : (frs (A.take (j + 1))).length ≤ (frs (A.take (whole A n))).length := by
    have := frs_len_take (A.take (whole A n)) (j + 1)
    rw [List.take_take, Nat.min_eq_left (by omega)] at this
    exact this
  have h3 : A.take (j + 1) = A.take j ++ [a] := by
    have hlt := (List.getElem?_eq_some_iff.1 ha)
    obtain ⟨hl, he⟩ := hlt
    rw [List.take_succ_eq_append_getElem hl, he]
  rw [h3, frs_app, List.length_append, frs_cons, frs_nil, List.append_nil] at h2
  omega
/-- What stands behind the first j frames. -/
theorem drop_frs (A : List Vk) (n j : Nat) : ((frs A).take n).drop (frs (A.take j)).length = (frs (A.drop j)).take (n - (frs (A.take j)).length) := by
  have h : frs A = frs (A.take j) ++ frs (A.drop j) := by rw [← frs_app, List.take_append_drop]
  rw [List.drop_take]
  congr 1
  conv => lhs; rw [h]
  rw [List.drop_left]
theorem drop_at {A : List Vk} {j : Nat} {a : Vk} (h : A[j]? = some a) : A.drop j = a :: A.drop (j + 1) := by
  obtain ⟨hl, he⟩ := List.getElem?_eq_some_iff.1 h
  rw [List.drop_eq_getElem_cons hl, he]
theorem flatR_len (A : List Vk) : (flatR A).length = A.length * 38 := by
  induction A with
  | nil => rfl
  | cons a r ih =>
    have : a.rc.toList.length = 38 := rfl
    simp only [flatR, List.flatMap_cons, List.length_append, List.length_cons] at ih ⊢
    omega
theorem flatR_snoc (A : List Vk) (a : Vk) : flatR (A ++ [a]) = flatR A ++ a.rc.toList := by simp [flatR]

/-- What a reading of a frame gives, whatever is there. -/
theorem readFrame_at (s : List UInt8) (c : UInt8) (t : List UInt8) (hs : s = 0 :: 0 :: 0 :: c :: t) : (∀ h : 0 < (⟨s.toArray⟩ : ByteArray).size, ((⟨s.toArray⟩ : ByteArray)[0]'h).toNat = 0) ∧ (∀ h : 1 < (⟨s.toArray⟩ : ByteArray).size, ((⟨s.toArray⟩ : ByteArray)[1]'h).toNat = 0) ∧ (∀ h : 2 < (⟨s.toArray⟩ : ByteArray).size, ((⟨s.toArray⟩ : ByteArray)[2]'h).toNat = 0) ∧ (∀ h : 3 < (⟨s.toArray⟩ : ByteArray).size, ((⟨s.toArray⟩ : ByteArray)[3]'h).toNat = c.toNat) := by
  subst hs
  exact ⟨fun h => rfl, fun h => rfl, fun h => rfl, fun h => rfl⟩
theorem ofNat_toNat (L : Nat) (h : L < 256) : (UInt8.ofNat L).toNat = L := by rw [UInt8.toNat_ofNat']; omega
theorem read_whole (a : Vk) (ha : a.Ok) (r : List UInt8) (w : World) (hr : r.length ≤ 1000000) :
    Calls Try.prog 16 #[.string ⟨(a.fr ++ r).toArray⟩] w fun e w' => e = .returned (.tuple #[.agg a.rc, .int .i64 (a.fr.length : Nat)]) ∧ Below w.heap.size w w' := by
  have hb := body_len a
  have hl := fr_len a
  obtain ⟨x0, x1, x2, x3⟩ := readFrame_at (a.fr ++ r) (UInt8.ofNat a.body.length) ((be (dg a.body) 8 ++ a.body) ++ r) (by rw [fr_head]; rfl)
  rw [ofNat_toNat _ hb] at x3
  have h := readFrame_full (a.fr ++ r) a.body.length w (by rw [List.length_append]; omega) (by rw [List.length_append]; omega) hb x0 x1 x2 x3 a.body r a.h a.r a.f rfl rfl rfl ha.1 ha.2.1 ha.2.2
  rw [← hl] at h
  exact h
theorem read_torn (a : Vk) (n : Nat) (r : List UInt8) (w : World) (hn : n < a.fr.length) :
    Calls Try.prog 16 #[.string ⟨((a.fr ++ r).take n).toArray⟩] w fun e w' => e = .returned (.tuple #[.agg RZ, .int .i64 0]) ∧ Below w.heap.size w w' := by
  have hb := body_len a
  have hl := fr_len a
  have e : (a.fr ++ r).take n = a.fr.take n := List.take_append_of_le_length (by omega)
  rw [e]
  have hlen : (a.fr.take n).length = n := by rw [List.length_take]; omega
  by_cases h12 : n < 12
  · exact readFrame_few _ w (by omega)
  · obtain ⟨x0, x1, x2, x3⟩ := readFrame_at (a.fr.take n) (UInt8.ofNat a.body.length) ((be (dg a.body) 8 ++ a.body).take (n - 4)) (by
      obtain ⟨m, rfl⟩ : ∃ m, n = m + 4 := ⟨n - 4, by omega⟩
      rw [fr_head]
      simp)
    rw [ofNat_toNat _ hb] at x3
    exact readFrame_torn _ a.body.length w (by omega) (by omega) hb x0 x1 x2 x3 (by omega)
end Go.Proofs.Ytaidiomaaldphaa
