/- A proof's box is given another proof: what lies elsewhere stays. -/
import Derived.Test.YtcpjcjonlkgblaaM46
import Derived.Test.YtcpjcjonlkgblaaTGrow2

namespace Go.Proofs.Ytcpjcjonlkgblaa
open Go.RowKit
set_option linter.unusedVariables false
set_option linter.unusedSimpArgs false

/-- Four cells are stored. -/
def set4 (w : World) (c : Nat) (a b d e : Value) : World := (((w.setCell ⟨c, 0, none⟩ a).setCell ⟨c, 1, none⟩ b).setCell ⟨c, 2, none⟩ d).setCell ⟨c, 3, none⟩ e
theorem set4_box {w : World} {c : Nat} {x0 x1 x2 x3 : Value} {t : TypeId} (h : Blk w c #[x0, x1, x2, x3] t) (a b d e : Value) : Blk (set4 w c a b d e) c #[a, b, d, e] t :=
  (((h.set 0 a).set 1 b).set 2 d).set 3 e
theorem set4_other {w : World} {c : Nat} {k : Nat} {cs : Array Value} {t : TypeId} (h : Blk w k cs t) (hne : k ≠ c) (a b d e : Value) : Blk (set4 w c a b d e) k cs t :=
  (((h.setOther ⟨c, 0, none⟩ hne a).setOther ⟨c, 1, none⟩ hne b).setOther ⟨c, 2, none⟩ hne d).setOther ⟨c, 3, none⟩ hne e
theorem set4_below {w0 w : World} {B c : Nat} (h : Below B w0 w) (hc : B ≤ c) (a b d e : Value) : Below B w0 (set4 w c a b d e) :=
  (((h.setCell (p := ⟨c, 0, none⟩) hc a).setCell (p := ⟨c, 1, none⟩) hc b).setCell (p := ⟨c, 2, none⟩) hc d).setCell (p := ⟨c, 3, none⟩) hc e
theorem ItemsAt.set {w : World} {la : Option Addr} {l : List (Key × Key)} {c : Nat} (h : ItemsAt w la l) (hf : Fresh (c + 1) la l) (i : Nat) (u : Value) : ItemsAt (w.setCell ⟨c, i, none⟩ u) la l := by
  rcases h with h | ⟨b, off, e, hl, hx⟩
  · exact .inl h
  · rcases hf with hf | hf
    · exact .inl hf
    · have hbc : c ≠ b := by have := hf b off e; omega
      refine .inr ⟨b, off, e, by rw [size_setCell]; exact hl, fun j x hj => ?_⟩
      obtain ⟨h1, h2⟩ := hx j x hj
      exact ⟨by rw [cell_off ⟨c, i, none⟩ ⟨b, off + j * 2, none⟩ u hbc]; exact h1, by rw [cell_off ⟨c, i, none⟩ ⟨b, off + j * 2 + 1, none⟩ u hbc]; exact h2⟩
theorem set4_items {w : World} {la : Option Addr} {l : List (Key × Key)} {c : Nat} (h : ItemsAt w la l) (hf : Fresh (c + 1) la l) (a b d e : Value) : ItemsAt (set4 w c a b d e) la l :=
  (((h.set hf 0 a).set hf 1 b).set hf 2 d).set hf 3 e
theorem turns_apart {w : World} {la : Option Addr} {l : List (Int × Int)} {c : Nat} {ta : Option Addr} {n m : Nat} {z : Bool} {s1 s2 : ByteArray} {t : TypeId} (h : TurnsAt w la l) (hc : Blk w c #[.slice ta n m, .bool z, .string s1, .string s2] t) : l ≠ [] → ∀ b off, la = some ⟨b, off, none⟩ → c ≠ b := by
  intro h0 b off e e2
  subst e2
  rcases h with h | ⟨b', off', e', hl, hx⟩
  · exact h0 h
  · rw [e'] at e
    injection e with e
    injection e with e1 e2
    subst e1
    cases l with
    | nil => exact h0 rfl
    | cons y r =>
      have := (hx 0 y rfl).1
      rw [hc.cell] at this
      generalize off' + 0 * 2 = j at this
      rcases j with _ | _ | _ | _ | j <;> simp at this
theorem set4_turns {w : World} {la : Option Addr} {l : List (Int × Int)} {c : Nat} {ta : Option Addr} {n m : Nat} {z : Bool} {s1 s2 : ByteArray} {t : TypeId} (h : TurnsAt w la l) (hc : Blk w c #[.slice ta n m, .bool z, .string s1, .string s2] t) (a b d e : Value) : TurnsAt (set4 w c a b d e) la l := by
  have hne := turns_apart h hc
  exact (((h.set hne 0 a).set hne 1 b).set hne 2 d).set hne 3 e
theorem set4_pf {w : World} {la : Option Addr} {cap : Nat} {p : Pf} {c : Nat} {ta : Option Addr} {n m : Nat} {z : Bool} {s1 s2 : ByteArray} {t : TypeId} (h : PfIn w la cap p) (hc : Blk w c #[.slice ta n m, .bool z, .string s1, .string s2] t) (a b d e : Value) : PfIn (set4 w c a b d e) la cap p :=
  ⟨h.cap1, h.cap2, set4_turns h.turns hc a b d e, h.each, h.key, h.val⟩
end Go.Proofs.Ytcpjcjonlkgblaa

namespace Go.Proofs.Ytcpjcjonlkgblaa
open Go.RowKit
set_option linter.unusedVariables false

/-- A list of numbers in memory. -/
def IntsAt (w : World) (oa : Option Addr) (od : List Int) : Prop :=
  od = [] ∨ ∃ b off, oa = some ⟨b, off, none⟩ ∧ b < w.heap.size ∧ ∀ i x, od[i]? = some x → w.cell? ⟨b, off + i, none⟩ = some (.int .i64 x)
theorem IntsAt.below {w w' : World} {oa : Option Addr} {od : List Int} (h : IntsAt w oa od) (hb : Below w.heap.size w w') : IntsAt w' oa od := by
  rcases h with h | ⟨b, off, e, hl, hc⟩
  · exact .inl h
  · exact .inr ⟨b, off, e, Nat.lt_of_lt_of_le hl hb.size, fun i x hx => by rw [hb.cell (p := ⟨b, off + i, none⟩) hl]; exact hc i x hx⟩

theorem grow_good : ∀ (l : List (Key × Key)) (o : Option Tr), Good o → Good (l.foldl growO o)
  | [], o, h => h
  | x :: l, o, h => grow_good l _ (growO_good h x)
theorem growO_len {o : Option Tr} (h : Good o) (x : Key × Key) : (itemsO (growO o x)).length ≤ (itemsO o).length + 1 := by
  unfold growO
  split
  · rename_i hs
    simp only [short, Bool.and_eq_true, decide_eq_true_eq] at hs
    rw [(putO_spec x.1 x.2 o h hs.1 hs.2).2]
    have := putGo_len x.1 x.2 (itemsO o)
    cases (x.2 == []) <;> omega
  · omega
theorem grow_len : ∀ (l : List (Key × Key)) (o : Option Tr), Good o → (itemsO (l.foldl growO o)).length ≤ (itemsO o).length + l.length
  | [], o, h => by simp
  | x :: l, o, h => by
    have h1 := grow_len l _ (growO_good h x)
    have h2 := growO_len h x
    simp only [List.foldl_cons, List.length_cons]
    omega

end Go.Proofs.Ytcpjcjonlkgblaa
