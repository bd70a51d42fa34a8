/- How much there is in a list of texts, and whether two paths are one: the statement's own helpers. -/
import Derived.Test.YtabimdlooddcoaaDigPathD
namespace Go.Proofs.Ytabimdlooddcoaa
open Go.RowKit
set_option linter.unusedVariables false

/-- The sum goes on while it is small. -/
def sumF : Nat → List ByteArray → Nat
  | n, [] => n
  | n, s :: r => if n ≤ 65536 then sumF (n + s.size) r else n
def sumP (ss : List ByteArray) : Nat := sumF ss.length ss

theorem sumF_ge : ∀ (ss : List ByteArray) (n : Nat), n ≤ sumF n ss := by
  intro ss
  induction ss with
  | nil => intro n; exact Nat.le_refl _
  | cons s r ih =>
    intro n
    simp only [sumF]
    split
    · have := ih (n + s.size); omega
    · exact Nat.le_refl _

theorem sum_drop (n : Nat) (ss : List ByteArray) (k : Nat) (hk : k < ss.length) (hn : n ≤ 65536) : sumF n (ss.drop k) = sumF (n + ss[k].size) (ss.drop (k + 1)) := by
  rw [List.drop_eq_getElem_cons hk]
  simp only [sumF]
  rw [if_pos hn]
theorem sum_stop (n : Nat) (ss : List ByteArray) (h : ¬ n ≤ 65536 ∨ ss = []) : sumF n ss = n := by
  cases ss with
  | nil => rfl
  | cons s r =>
    simp only [sumF]
    rw [if_neg (by rcases h with h | h; exact h; cases h)]

set_option maxHeartbeats 400000 in
theorem sum_any (a : Option Addr) (n cap : Nat) (ss : List ByteArray) (w : World) (hn : n ≤ 140737488351232) (hsz : ∀ s ∈ ss, s.size ≤ 140737488351232) (hl : ss.length = n) (hs : Strs w a ss) :
    Calls Try.prog 6 #[.slice a n cap] w fun e w' => e = .returned (.int .i64 (sumP ss)) ∧ w = w' := by
  have HL := show Hid (_ = _) from hl
  go_enter Try.func6, Try.ntmps6
  go_wp2_with fail
  go_loop [3, 4] (fun nv iv => ∃ (k m : Nat), k ≤ n ∧ iv = .int .i64 k ∧ nv = .int .i64 m ∧ m ≤ 281474976710656 ∧ Hid (sumP ss = sumF m (ss.drop k))) (fun _ iv => n - (intOf iv).toNat)
  case atStart => exact ⟨0, n, Nat.zero_le _, rfl, rfl, by omega, by show _ = _; unfold sumP; rw [hl]; rfl⟩
  case round =>
    obtain ⟨k, m, hk, rfl, rfl, hm, Hm⟩ := hrel
    by_cases hlt : k < n
    · have hlt' : (k : Int) < (n : Int) := by omega
      by_cases hle : m ≤ 65536
      · have hle' : (m : Int) ≤ 65536 := by omega
        have hkl : k < ss.length := by omega
        obtain ⟨hsm, h0 | ⟨b, off, rfl, hbl, hc⟩⟩ := hs
        · subst h0; simp at hkl
        have hck := hc k hkl
        have hsk := hsz _ (List.getElem_mem hkl)
        have HS : Hid (_ = _) := sum_drop m ss k hkl hle
        clear hc hsz hsm
        generalize ss[k] = s at *
        go_wp2
        exact ⟨⟨k + 1, m + s.size, by omega, by go_num, by go_num, by omega, Hm.out.trans HS.out⟩, by simp [intOf]; omega⟩
      · have hle' : decide ((m : Int) ≤ 65536) = false := by simp; omega
        go_wp2
        go_ret
        exact ⟨ret_i64 (by rw [Hm.out, sum_stop _ _ (.inl hle)]), rfl⟩
    · have hlt' : decide ((k : Int) < (n : Int)) = false := by simp; omega
      go_wp2
      go_ret
      exact ⟨ret_i64 (by rw [Hm.out, sum_stop _ _ (.inr (List.drop_eq_nil_of_le (by omega)))]), rfl⟩

theorem Row.form {w : World} {v : Value} {vs : List Value} (h : Row w v vs) : ∃ a cap, v = .slice a vs.length cap := by
  obtain ⟨a, cap, e, _⟩ := h; exact ⟨a, cap, e⟩
theorem Row.len {w : World} {v : Value} {vs : List Value} (h : Row w v vs) : vs.length ≤ maxLen := by
  obtain ⟨a, cap, e, h1, h2, _⟩ := h; omega
theorem Row.at {w : World} {a : Option Addr} {n cap : Nat} {vs : List Value} (h : Row w (.slice a n cap) vs) (k : Nat) (hk : k < vs.length) :
    ∃ b off, a = some ⟨b, off, none⟩ ∧ b < w.heap.size ∧ w.cell? ⟨b, off + k, none⟩ = some vs[k] := by
  obtain ⟨a', cap', e, h1, h2, h3⟩ := h
  simp at e
  obtain ⟨rfl, _, _⟩ := e
  rcases h3 with h3 | ⟨b, off, rfl, hlt, hc⟩
  · subst h3; simp at hk
  · exact ⟨b, off, rfl, hlt, hc k hk⟩

set_option maxHeartbeats 800000 in
theorem samePath_yes (c i : Int) (v1 v2 : Value) (ds : List Int) (w : World) (h1 : Row w v1 (ds.map (Value.int .u64))) (h2 : Row w v2 (ds.map (Value.int .u64))) :
    Calls Try.prog 14 #[.agg #[.int .i64 c, .int .i64 i, v1], .agg #[.int .i64 c, .int .i64 i, v2]] w fun e w' => e = .returned (.bool true) ∧ Below w.heap.size w w' := by
  obtain ⟨a1, c1, rfl⟩ := h1.form
  obtain ⟨a2, c2, rfl⟩ := h2.form
  have hlen := h1.len
  have hL : (ds.map (Value.int .u64)).length = ds.length := by simp
  rw [hL] at hlen
  unfold maxLen at hlen
  rw [hL] at *
  clear hL
  have n1 : (c != c) = false := by simp
  have n2 : (i != i) = false := by simp
  have n3 : ((ds.length : Int) != (ds.length : Int)) = false := by simp
  go_enter Try.func14, Try.ntmps14
  go_wp2_with fail
  go_loopw [5] (fun iv wv => ∃ k : Nat, k ≤ ds.length ∧ iv = .int .i64 k ∧ Blk wv w.heap.size #[.int .i64 c, .int .i64 i, .slice a1 ds.length c1] 34 ∧ Blk wv (w.heap.size + 1) #[.int .i64 c, .int .i64 i, .slice a2 ds.length c2] 34 ∧ Below w.heap.size w wv) (fun iv _ => ds.length - (intOf iv).toNat)
  case atStart =>
    refine ⟨0, Nat.zero_le _, rfl, (Blk.new w _ _).alloc _, ?_, ((Below.refl _ _).alloc (Nat.le_refl _) _).alloc (by simp) _⟩
    have h := Blk.new (w.alloc (.cells #[.int .i64 c, .int .i64 i, .slice a1 ds.length c1] 34)) #[.int .i64 c, .int .i64 i, .slice a2 ds.length c2] 34
    rw [World.size_alloc] at h; exact h
  case round =>
    obtain ⟨k, hk, rfl, k1, k2, hb⟩ := hrel
    have d1 := k1.cell 2
    have d2 := k2.cell 2
    simp only [List.getElem?_toArray, List.getElem?_cons_succ, List.getElem?_cons_zero] at d1 d2
    by_cases hlt : k < ds.length
    · have hlt' : (k : Int) < (ds.length : Int) := by omega
      obtain ⟨b1, o1, rfl, hl1, e1⟩ := (h1.below hb).at k (by simpa using hlt)
      obtain ⟨b2, o2, rfl, hl2, e2⟩ := (h2.below hb).at k (by simpa using hlt)
      rw [List.getElem_map] at e1 e2
      generalize ds[k] = d at *
      have hdd : (d != d) = false := by simp
      clear h1 h2
      go_wp2_with fail
      go_quiet (fail)
      have hq : Below wr.heap.size wr (wr.drewN nq) := below_drewN (Below.refl _ _) nq
      have k1' := k1.below hq k1.lt
      have k2' := k2.below hq k2.lt
      have hb' := hb.trans (hq.mono hb.size)
      go_wp2
      exact ⟨⟨k + 1, by omega, by go_num, k1', k2', hb'⟩, by simp [intOf]; omega⟩
    · have hlt' : decide ((k : Int) < (ds.length : Int)) = false := by simp; omega
      go_wp2
      go_ret
      exact ⟨rfl, hb⟩
end Go.Proofs.Ytabimdlooddcoaa
