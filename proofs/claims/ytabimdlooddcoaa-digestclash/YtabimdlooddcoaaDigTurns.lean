/- The way down to a leaf (chapter 2, D3): which part it is in, and what is above the other part. -/
import Derived.Test.YtabimdlooddcoaaDigAbove
import Derived.Deep.AppendLies
namespace Go.Proofs.Ytabimdlooddcoaa
open Go.RowKit
set_option linter.unusedVariables false

def turnsF : Nat → Nat → Nat → List Bool
  | 0, _, _ => []
  | f + 1, n, i => if n ≤ 1 then [] else if firstP n ≤ i then true :: turnsF f (n - firstP n) (i - firstP n) else false :: turnsF f (firstP n) i
def turnsP (n i : Nat) : List Bool := turnsF n n i
theorem turnsF_fuel : ∀ (f g n i : Nat), n ≤ f → n ≤ g → turnsF f n i = turnsF g n i := by
  intro f
  induction f with
  | zero =>
    intro g n i h1 h2
    cases g with
    | zero => rfl
    | succ g => simp only [turnsF]; rw [if_pos (by omega)]
  | succ f ih =>
    intro g n i h1 h2
    by_cases h : n ≤ 1
    · cases g with
      | zero => simp only [turnsF]; rw [if_pos h]
      | succ g => simp only [turnsF]; rw [if_pos h, if_pos h]
    · cases g with
      | zero => omega
      | succ g =>
        have hs := firstP_spec n (by omega)
        simp only [turnsF]
        rw [if_neg h, if_neg h, ih g (n - firstP n) _ (by omega) (by omega), ih g (firstP n) _ (by omega) (by omega)]
theorem turnsP_one (n i : Nat) (h : n ≤ 1) : turnsP n i = [] := by
  unfold turnsP
  cases n with
  | zero => rfl
  | succ n => simp only [turnsF]; rw [if_pos h]
theorem turnsP_right (n i : Nat) (h : 2 ≤ n) (hi : firstP n ≤ i) : turnsP n i = true :: turnsP (n - firstP n) (i - firstP n) := by
  have hs := firstP_spec n h
  have h1 : turnsP n i = turnsF ((n - 1) + 1) n i := turnsF_fuel _ _ n i (Nat.le_refl _) (by omega)
  rw [h1]; simp only [turnsF]
  rw [if_neg (by omega), if_pos hi]
  rw [turnsF_fuel (n - 1) (n - firstP n) (n - firstP n) _ (by omega) (Nat.le_refl _)]; rfl
theorem turnsP_left (n i : Nat) (h : 2 ≤ n) (hi : ¬ firstP n ≤ i) : turnsP n i = false :: turnsP (firstP n) i := by
  have hs := firstP_spec n h
  have h1 : turnsP n i = turnsF ((n - 1) + 1) n i := turnsF_fuel _ _ n i (Nat.le_refl _) (by omega)
  rw [h1]; simp only [turnsF]
  rw [if_neg (by omega), if_neg hi]
  rw [turnsF_fuel (n - 1) (firstP n) (firstP n) _ (by omega) (Nat.le_refl _)]; rfl

/-- A slice of cells in memory, one cell an element. -/
def Row (w : World) (v : Value) (vs : List Value) : Prop :=
  ∃ a cap, v = .slice a vs.length cap ∧ vs.length ≤ cap ∧ cap ≤ maxLen ∧ (vs = [] ∨ ∃ b off, a = some ⟨b, off, none⟩ ∧ b < w.heap.size ∧ ∀ i (h : i < vs.length), w.cell? ⟨b, off + i, none⟩ = some vs[i])

theorem Row.below {w w' : World} {v : Value} {vs : List Value} (h : Row w v vs) (hb : Below w.heap.size w w') : Row w' v vs := by
  obtain ⟨a, cap, e, h1, h2, h3⟩ := h
  refine ⟨a, cap, e, h1, h2, ?_⟩
  rcases h3 with h3 | ⟨b, off, rfl, hlt, hc⟩
  · exact .inl h3
  · exact .inr ⟨b, off, rfl, Nat.lt_of_lt_of_le hlt hb.size, fun i hi => by rw [hb.cell (p := ⟨b, off + i, none⟩) hlt]; exact hc i hi⟩

theorem row_of_owns {w : World} {base : Nat} {e : TypeId} {v : Value} {n : Nat} {xs : List Value} (h : w.ownsRow base e 1 v n xs) : Row w v xs := by
  obtain ⟨hl, h2⟩ := h
  rw [Nat.mul_one] at hl
  rcases h2 with ⟨rfl, rfl⟩ | ⟨g, cap, cur, rfl, hg, hh, hn, hm, hs, ht⟩
  · have : xs = [] := List.eq_nil_of_length_eq_zero hl
    subst this
    exact ⟨_, _, rfl, Nat.zero_le _, Nat.zero_le _, .inl rfl⟩
  · rw [Nat.mul_one] at hs ht
    refine ⟨_, cap, by rw [hl], by omega, hm, .inr ⟨g, 0, rfl, ?_, fun i hi => ?_⟩⟩
    · exact (Array.getElem?_eq_some_iff.1 hh).1
    · have hi' : i < cur.size := by omega
      have e1 : w.cell? ⟨g, 0 + i, none⟩ = cur[i]? := by simp [World.cell?, hh]
      rw [e1]
      subst ht
      simp [hi']

theorem infoBool : (Try.prog.info? 4).map (fun i => (i.zero, i.size, i.bytes)) = some (some (.bool false), 1, 1) := by kernel_rfl

set_option maxHeartbeats 800000 in
theorem turns_any (n i : Nat) (w : World) (hi : i < n) (hn : n ≤ 1099511627776) :
    Calls Try.prog 33 #[.int .i64 n, .int .i64 i] w fun e w' => ∃ v, e = .returned v ∧ w'.ownsRow w.heap.size 4 1 v (turnsP n i).length ((turnsP n i).map Value.bool) ∧ Below w.heap.size w w' := by
  obtain ⟨i0, hinf, hz0, hz1, hz2⟩ := info_parts infoBool
  go_enter Try.func33, Try.ntmps33
  go_wp2
  go_loopw [0, 1, 5] (fun nv av lv wv => ∃ (m j c : Nat) (pre : List Bool), nv = .int .i64 m ∧ av = .int .i64 j ∧ j < m ∧ c + m ≤ n ∧ Hid (pre.length = c) ∧ Hid (turnsP n i = pre ++ turnsP m j) ∧ wv.ownsRow w.heap.size 4 1 lv c (pre.map Value.bool) ∧ Below w.heap.size w wv) (fun nv _ _ _ => (intOf nv).toNat)
  case atStart => exact ⟨n, i, 0, [], rfl, rfl, hi, by omega, rfl, rfl, World.ownsRow_nil _ _ _ _, Below.refl _ _⟩
  case round =>
    obtain ⟨m, j, c, pre, rfl, rfl, hjm, hcm, Hc, Hp, hown, hb⟩ := hrel
    by_cases hm : 1 < m
    · have hf := firstP_spec m (by omega)
      have hR := turnsP_right m j (by omega)
      have hL := turnsP_left m j (by omega)
      have HR := show Hid (_ → _) from hR
      have HL := show Hid (_ → _) from hL
      clear hR hL
      go_wp2_with fail
      refine (first_any m _ (by omega) (by omega)).mono ?_
      rintro e w1 ⟨rfl, rfl⟩
      generalize firstP m = k at *
      by_cases hk : k ≤ j
      · have HT : Hid (turnsP m j = true :: turnsP (m - k) (j - k)) := HR.out hk
        clear HR HL
        go_wp2_with (at_builtin; refine wpList_append_own _ rfl _ _ 55 rfl w.heap.size 4 i0 (.bool false) 1 1 Try.underlying55 hinf hz0 hz1 hz2 rfl (by decide) _ _ _ rfl (hown.alloc _) ⟨wr.heap.size, 0, none⟩ 1 1 [.bool true] rfl rfl ?c1 ?c2 ?c3 ?c4 ?c5 ?_)
        case c1 => exact cell_one_new _ _ _
        case c2 => intro u hu; simp at hu; subst hu; rfl
        case c3 => unfold maxLen; omega
        case c4 => omega
        case c5 => have := hb.size; simp; omega
        intro v' w1 hown' hgrow _
        have hb1 : Below w.heap.size w w1 := (hb.alloc hb.size _).grown hgrow (by have := hb.size; simp; omega) (fun k e => (hown.lt k e).1)
        have hpre : Hid ((pre ++ [true]).length = c + 1) := by show _ = _; rw [List.length_append, Hc.out]; rfl
        have hturn := HT.out
        have HP : Hid (turnsP n i = (pre ++ [true]) ++ turnsP (m - k) (j - k)) := by show _ = _; rw [Hp.out, hturn]; simp
        have hown2 : w1.ownsRow w.heap.size 4 1 v' (c + 1) ((pre ++ [true]).map Value.bool) := by rw [List.map_append]; exact hown'
        clear hturn hown' hgrow
        go_wp2
        exact ⟨⟨m - k, j - k, c + 1, pre ++ [true], by go_num, by go_num, by omega, by omega, hpre, HP, hown2, hb1⟩, by simp [intOf]; omega⟩
      · have HT : Hid (turnsP m j = false :: turnsP k j) := HL.out hk
        clear HR HL
        go_wp2_with (at_builtin; refine wpList_append_own _ rfl _ _ 55 rfl w.heap.size 4 i0 (.bool false) 1 1 Try.underlying55 hinf hz0 hz1 hz2 rfl (by decide) _ _ _ rfl (hown.alloc _) ⟨wr.heap.size, 0, none⟩ 1 1 [.bool false] rfl rfl ?c1 ?c2 ?c3 ?c4 ?c5 ?_)
        case c1 => exact cell_one_new _ _ _
        case c2 => intro u hu; simp at hu; subst hu; rfl
        case c3 => unfold maxLen; omega
        case c4 => omega
        case c5 => have := hb.size; simp; omega
        intro v' w1 hown' hgrow _
        have hb1 : Below w.heap.size w w1 := (hb.alloc hb.size _).grown hgrow (by have := hb.size; simp; omega) (fun k e => (hown.lt k e).1)
        have hpre : Hid ((pre ++ [false]).length = c + 1) := by show _ = _; rw [List.length_append, Hc.out]; rfl
        have hturn := HT.out
        have HP : Hid (turnsP n i = (pre ++ [false]) ++ turnsP k j) := by show _ = _; rw [Hp.out, hturn]; simp
        have hown2 : w1.ownsRow w.heap.size 4 1 v' (c + 1) ((pre ++ [false]).map Value.bool) := by rw [List.map_append]; exact hown'
        clear hturn hown' hgrow
        go_wp2
        exact ⟨⟨k, j, c + 1, pre ++ [false], rfl, rfl, by omega, by omega, hpre, HP, hown2, hb1⟩, by simp [intOf]; omega⟩
    · go_wp2
      go_ret
      refine ⟨_, rfl, ?_, hb⟩
      have e : turnsP n i = pre := by rw [Hp.out, turnsP_one m j (by omega), List.append_nil]
      rw [e, Hc.out]
      exact hown
end Go.Proofs.Ytabimdlooddcoaa
