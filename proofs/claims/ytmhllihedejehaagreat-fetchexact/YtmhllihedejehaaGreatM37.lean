/- The answer's bit of a key. -/
import Derived.Test.YtmhllihedejehaaGreatM07
import Derived.Test.YtmhllihedejehaaGreatZPure
import Derived.Test.YtmhllihedejehaaGreatM21

namespace Go.Proofs.YtmhllihedejehaaGreat
open Go.RowKit
set_option linter.unusedVariables false
set_option linter.unusedSimpArgs false

theorem rbit_in (k : Key) (P : Int) (i o : Nat) (w : World) (hk : k.length ≤ maxLen) (h0 : 0 ≤ P) (hP : P ≤ 100000000) (h1 : P / 9 = i) (h2 : P % 9 = o) (ho : ¬ o = 0) (ho9 : o < 9) (hi : i < k.length) :
    Calls Tryz.prog 55 #[.string (str k), .int .i64 P] w fun e w' => e = .returned (.int .i64 ((k[i]'hi).toNat / 2 ^ (8 - o) % 2 : Nat)) ∧ w = w' := by
  have hsz := str_size k
  unfold maxLen at hk
  have hge : ¬ (k.length : Int) ≤ (i : Int) := by omega
  have hoi : ¬ (o : Int) = 0 := by omega
  have hob : ((o : Int) == 0) = false := by simpa using hoi
  have e : ∀ h', ((str k)[i]'h').toNat = k[i].toNat := fun h' => by rw [str_get k i hi h']
  have hx := k[i].toNat_lt
  obtain ⟨X, HX⟩ : ∃ X : Nat, Hid (k[i].toNat = X) := ⟨k[i].toNat, show k[i].toNat = k[i].toNat from rfl⟩
  have e2 : ∀ h', ((str k)[i]'h').toNat = X := fun h' => (e h').trans HX.out
  rw [HX.out] at hx ⊢
  clear e
  go_enter Tryz.func55, Tryz.ntmps55
  go_wp2_with fail
  try simp only [e2]
  go_loopw [7, 8] (fun nv kv wv => ∃ j : Nat, o ≤ j ∧ j ≤ 8 ∧ kv = .int .i64 j ∧ nv = .int .i64 ((X / 2 ^ (j - o) : Nat) : Int) ∧ w = wv) (fun _ kv _ => 8 - (intOf kv).toNat)
  case atStart => exact ⟨o, Nat.le_refl _, by omega, rfl, by rw [Nat.sub_self]; simp, rfl⟩
  case round =>
    obtain ⟨j, hj1, hj2, rfl, rfl, rfl⟩ := hrel
    have hd : X / 2 ^ (j - o) ≤ X := Nat.div_le_self _ _
    by_cases hj8 : j < 8
    · have hj8' : (j : Int) < 8 := by omega
      have HN : Hid (X / 2 ^ (j - o) / 2 = X / 2 ^ (j + 1 - o)) := by
        show _ = _
        rw [Nat.div_div_eq_div_mul, show j + 1 - o = (j - o) + 1 by omega, Nat.pow_succ]
      generalize X / 2 ^ (j - o) = Y at *
      have hq : (Y : Int).tdiv 2 = ((Y / 2 : Nat) : Int) := by rw [Int.tdiv_eq_ediv_of_nonneg (by omega)]; omega
      go_wp2
      exact ⟨⟨j + 1, by omega, by omega, by go_num, by rw [← HN.out]; first | rfl | (simp; omega) | (congr 1; omega), by first | rfl | trivial⟩, by simp [intOf]; omega⟩
    · have hj8' : ¬ (j : Int) < 8 := by omega
      obtain rfl : j = 8 := by omega
      obtain ⟨Y, HY⟩ : ∃ Y : Nat, Hid (X / 2 ^ (8 - o) = Y) := ⟨_, rfl⟩
      rw [HY.out] at hd ⊢
      go_wp2
      go_ret
      refine ⟨ret_i64 ?_, rfl⟩
      have h9 := HY.out
      push_cast
      rw [← h9]
      push_cast
      rfl

theorem rbit_first (k : Key) (P : Int) (i o : Nat) (w : World) (hk : k.length ≤ maxLen) (h0 : 0 ≤ P) (hP : P ≤ 100000000) (h1 : P / 9 = i) (h2 : P % 9 = o) (ho : o = 0) (hi : i < k.length) :
    Calls Tryz.prog 55 #[.string (str k), .int .i64 P] w fun e w' => e = .returned (.int .i64 1) ∧ w = w' := by
  have hsz := str_size k
  unfold maxLen at hk
  have hge : ¬ (k.length : Int) ≤ (i : Int) := by omega
  have hP9 : P % 9 = 0 := by omega
  go_enter Tryz.func55, Tryz.ntmps55
  go_wp2
  go_ret
  exact ⟨rfl, rfl⟩
theorem rbit_off (k : Key) (P : Int) (i : Nat) (w : World) (hk : k.length ≤ maxLen) (h0 : 0 ≤ P) (hP : P ≤ 100000000) (h1 : P / 9 = i) (hi : ¬ i < k.length) :
    Calls Tryz.prog 55 #[.string (str k), .int .i64 P] w fun e w' => e = .returned (.int .i64 0) ∧ w = w' := by
  have hsz := str_size k
  unfold maxLen at hk
  have hge : (k.length : Int) ≤ (i : Int) := by omega
  go_enter Tryz.func55, Tryz.ntmps55
  go_wp2
  go_ret
  exact ⟨rfl, rfl⟩
theorem rbit_any (k : Key) (p : Nat) (w : World) (hk : k.length ≤ maxLen) (hp : p ≤ 100000000) :
    Calls Tryz.prog 55 #[.string (str k), .int .i64 p] w fun e w' => e = .returned (.int .i64 (bitP k p : Nat)) ∧ w = w' := by
  by_cases hi : p / 9 < k.length
  · by_cases ho : p % 9 = 0
    · have e : bitP k p = 1 := by simp [bitP, hi, ho]
      rw [e]
      exact rbit_first k p (p / 9) (p % 9) w hk (by omega) (by omega) (by omega) (by omega) ho hi
    · have e : bitP k p = (k[p / 9]'hi).toNat / 2 ^ (8 - p % 9) % 2 := by simp [bitP, hi, ho]
      rw [e]
      exact rbit_in k p (p / 9) (p % 9) w hk (by omega) (by omega) (by omega) (by omega) ho (by omega) hi
  · have e : bitP k p = 0 := by
      unfold bitP
      rw [List.getElem?_eq_none (by omega)]
    rw [e]
    exact rbit_off k p (p / 9) w hk (by omega) (by omega) (by omega) hi
end Go.Proofs.YtmhllihedejehaaGreat

namespace Go.Proofs.YtmhllihedejehaaGreat
open Go.RowKit
set_option linter.unusedVariables false
set_option linter.unusedSimpArgs false

theorem ItemsAt.take {w : World} {la : Option Addr} {l : List (Key × Key)} (h : ItemsAt w la l) (k : Nat) : ItemsAt w la (l.take k) := by
  rcases h with h | ⟨b, off, e, hl, hc⟩
  · left; rw [h]; simp
  · refine .inr ⟨b, off, e, hl, fun i x hx => hc i x ?_⟩
    rw [List.getElem?_take] at hx
    split at hx
    · exact hx
    · cases hx
theorem ItemsAt.left {w : World} {la : Option Addr} {l m : List (Key × Key)} (h : ItemsAt w la (l ++ m)) : ItemsAt w la l := by
  have := h.take l.length
  rwa [List.take_left] at this
theorem ItemsAt.right {w : World} {b off : Nat} {l m : List (Key × Key)} (h : ItemsAt w (some ⟨b, off, none⟩) (l ++ m)) : ItemsAt w (some ⟨b, off + l.length * 2, none⟩) m := by
  rcases h with h | ⟨b', off', e, hl, hc⟩
  · left; exact (List.append_eq_nil_iff.1 h).2
  · injection e with e
    injection e with e1 e2 _
    subst e1 e2
    refine .inr ⟨b, _, rfl, hl, fun i x hx => ?_⟩
    have := hc (l.length + i) x (by rw [List.getElem?_append_right (by omega), Nat.add_sub_cancel_left]; exact hx)
    rw [Nat.add_mul, ← Nat.add_assoc] at this
    exact this

set_option maxHeartbeats 3200000 in
theorem rfork_any (p k : Nat) (L : List (Key × Key)) (la : Option Addr) (cap : Nat) (w : World) (hp : p ≤ 100000000) (hK : ∀ x ∈ L, x.1.length ≤ 32) (hn : L.length ≤ 100000) (hz : zerosP p L = k) (hk0 : 0 < k) (hkL : k < L.length) (ha : ∀ q, q < p → zerosP q L = 0 ∨ zerosP q L = L.length) (hi : ItemsAt w la L) :
    Calls Tryz.prog 29 #[.slice la L.length cap] w fun e w' => e = .returned (.tuple #[.int .i64 p, .int .i64 k]) ∧ w = w' := by
  rcases hi with h0 | ⟨b, off, rfl, hlt, hc⟩
  · rw [h0] at hkL; simp at hkL
  have HC := show Hid (_) from hc
  have HA := show Hid (_) from ha
  have HK := show Hid (_) from hK
  have HZ := show Hid (_) from hz
  clear hc ha hK hz
  go_enter Tryz.func29, Tryz.ntmps29
  go_wp2_with fail
  go_loopw [4] (fun pv wv => ∃ q : Nat, q ≤ p ∧ pv = .int .i64 q ∧ w = wv) (fun pv _ => p + 1 - (intOf pv).toNat)
  case atStart => exact ⟨0, Nat.zero_le _, rfl, rfl⟩
  case round =>
    obtain ⟨q, hq, rfl, rfl⟩ := hrel
    go_wp2_with fail
    go_loopw [5, 6] (fun zv iv wv => ∃ i : Nat, i ≤ L.length ∧ iv = .int .i64 i ∧ zv = .int .i64 (zerosP q (L.take i) : Nat) ∧ w = wv) (fun _ iv _ => L.length - (intOf iv).toNat)
    case atStart => exact ⟨0, Nat.zero_le _, rfl, rfl, rfl⟩
    case round =>
      obtain ⟨i, hi, rfl, rfl, rfl⟩ := hrel
      by_cases hil : i < L.length
      · have hil' : (i : Int) < (L.length : Int) := by omega
        have c0 := (HC.out i _ (List.getElem?_eq_getElem hil)).1
        have hk := HK.out _ (List.getElem_mem hil)
        have hst := zerosP_snoc q (L.take i) L[i]
        rw [← List.take_succ_eq_append_getElem hil] at hst
        have hz1 := zerosP_le q (L.take i)
        rw [List.length_take] at hz1
        have HS := show Hid (_) from hst
        clear hst
        generalize L[i] = x at *
        have kb := rbit_any x.1 q w (by unfold maxLen; omega) (by omega)
        rcases bitP_01 x.1 q with e | e
        · have HS2 : Hid (zerosP q (L.take (i + 1)) = zerosP q (L.take i) + 1) := by show _ = _; rw [HS.out, if_pos e]
          rw [e] at kb
          clear HS e
          generalize zerosP q (L.take i) = z at *
          go_wp2_with fail
          refine kb.mono ?_
          rintro e w' ⟨rfl, rfl⟩
          go_wp2
          exact ⟨⟨i + 1, by omega, by go_num, by rw [HS2.out]; go_num, trivial⟩, by simp [intOf]; omega⟩
        · have HS2 : Hid (zerosP q (L.take (i + 1)) = zerosP q (L.take i)) := by show _ = _; rw [HS.out, if_neg (by omega)]; rfl
          rw [e] at kb
          clear HS e
          generalize zerosP q (L.take i) = z at *
          go_wp2_with fail
          refine kb.mono ?_
          rintro e w' ⟨rfl, rfl⟩
          go_wp2
          exact ⟨⟨i + 1, by omega, by go_num, by rw [HS2.out], trivial⟩, by simp [intOf]; omega⟩
      · have hge : ¬ (i : Int) < (L.length : Int) := by omega
        have hiL : i = L.length := by omega
        have e : L.take i = L := by rw [hiL]; exact List.take_length
        rw [e]
        by_cases hqp : q = p
        · have hz1 : zerosP q L = k := by rw [hqp]; exact HZ.out
          rw [hz1]
          have HQ := show Hid (_ = _) from hqp
          clear e hz1 hiL hqp
          have x1 : (0 : Int) < (k : Int) := by omega
          have x2 : (k : Int) < (L.length : Int) := by omega
          go_wp2
          exact bodyPost_ret (v := .tuple #[.int .i64 q, .int .i64 k]) (by simp [results, Tryz.results29]) rfl ⟨by rw [HQ.out], rfl⟩
        · have hcase := HA.out q (by omega)
          have hzl := zerosP_le q L
          clear e hiL
          rcases hcase with hc0 | hc0
          · rw [hc0]
            clear hc0
            go_wp2
            exact ⟨⟨q + 1, by omega, by go_num, trivial⟩, by simp [intOf]; omega⟩
          · rw [hc0]
            clear hc0
            have x1 : (0 : Int) < (L.length : Int) := by omega
            have x2 : ¬ (L.length : Int) < (L.length : Int) := by omega
            go_wp2
            exact ⟨⟨q + 1, by omega, by go_num, trivial⟩, by simp [intOf]; omega⟩
/-- Of a fork of a tree. -/
theorem rfork_tr (p : Nat) (l r : Tr) (la : Option Addr) (cap : Nat) (w : World) (hw : (Tr.fork p l r).wf) (hp : p ≤ 100000000) (hK : ∀ x ∈ (Tr.fork p l r).items, x.1.length ≤ 32) (hn : (Tr.fork p l r).items.length ≤ 100000) (hi : ItemsAt w la (Tr.fork p l r).items) :
    Calls Tryz.prog 29 #[.slice la (Tr.fork p l r).items.length cap] w fun e w' => e = .returned (.tuple #[.int .i64 p, .int .i64 l.items.length]) ∧ w = w' :=
  rfork_any p l.items.length (Tr.fork p l r).items la cap w hp hK hn (fork_at hw) l.items_pos (by have := r.items_pos; simp only [Tr.items, List.length_append]; omega) (fork_ahead hw) hi
end Go.Proofs.YtmhllihedejehaaGreat
