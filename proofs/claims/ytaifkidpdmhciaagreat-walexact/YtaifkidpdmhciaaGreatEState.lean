/- Steps in memory; pick; rows of chunks. -/
import Derived.Test.YtaifkidpdmhciaaGreatERB
namespace Go.Proofs.YtaifkidpdmhciaaGreat
open Go.RowKit
set_option linter.unusedVariables false
set_option linter.unusedSimpArgs false

/-- What pick gives. -/
def pickP (c n : Int) : Int := if c < 0 then (-(c + 1)) % n else c % n
theorem pickP_bd (c n : Int) (hn : 1 ≤ n) : 0 ≤ pickP c n ∧ pickP c n < n := by
  unfold pickP
  split
  · exact ⟨Int.emod_nonneg _ (by omega), Int.emod_lt_of_pos _ (by omega)⟩
  · exact ⟨Int.emod_nonneg _ (by omega), Int.emod_lt_of_pos _ (by omega)⟩
def InN (y : Int) : Prop := -9223372036854775808 ≤ y ∧ y ≤ 9223372036854775807

theorem pick_fn (c n : Int) (w : World) (hc : InN c) (hn : 1 ≤ n ∧ n ≤ 9223372036854775807) :
    Calls Tryz.prog 5 #[.int .i64 c, .int .i64 n] w fun e w' => e = .returned (.int .i64 (pickP c n)) ∧ w = w' := by
  unfold InN at hc
  by_cases h : c < 0
  · have hq := Int.emod_nonneg (-(c + 1)) (show n ≠ 0 by omega)
    have hq2 := Int.emod_lt_of_pos (-(c + 1)) (show 0 < n by omega)
    have HP : Hid (pickP c n = -(c + 1) % n) := by show _ = _; unfold pickP; rw [if_pos h]
    go_enter Tryz.func5, Tryz.ntmps5
    go_wp2
    go_ret
    have e : -((c + 1).tmod n) = -(c + 1) % n := by rw [← Int.neg_tmod, Int.tmod_eq_emod_of_nonneg (by omega)]
    exact ⟨by rw [HP.out, ← e]; rfl, rfl⟩
  · have hq := Int.emod_nonneg c (show n ≠ 0 by omega)
    have hq2 := Int.emod_lt_of_pos c (show 0 < n by omega)
    have HP : Hid (pickP c n = c % n) := by show _ = _; unfold pickP; rw [if_neg h]
    go_enter Tryz.func5, Tryz.ntmps5
    go_wp2
    go_ret
    exact ⟨by rw [HP.out]; rfl, rfl⟩

/-- Chunks of one size, one behind the other. -/
theorem chunk {α : Type} (f : α → List Value) (sz : Nat) (hf : ∀ a, (f a).length = sz) : ∀ (l : List α) (k j : Nat) (x : α), l[k]? = some x → j < sz → (l.flatMap f)[k * sz + j]? = (f x)[j]?
  | [], k, j, x, h, _ => by simp at h
  | y :: r, 0, j, x, h, hj => by
    simp only [List.getElem?_cons_zero, Option.some.injEq] at h
    subst h
    simp only [List.flatMap_cons, Nat.zero_mul, Nat.zero_add]
    rw [List.getElem?_append_left (by rw [hf]; exact hj)]
  | y :: r, k + 1, j, x, h, hj => by
    rw [List.getElem?_cons_succ] at h
    have h1 := chunk f sz hf r k j x h hj
    have e : (k + 1) * sz + j - sz = k * sz + j := by rw [Nat.add_mul, Nat.one_mul]; omega
    rw [List.flatMap_cons, List.getElem?_append_right (by rw [hf, Nat.add_mul]; omega), hf, e]
    exact h1
/-- The cells of a row that a list of chunks lies in. -/
theorem owns_chunk {α : Type} {f : α → List Value} {sz : Nat} (hf : ∀ a, (f a).length = sz) {w : World} {base : Nat} {e : TypeId} {v : Value} {l : List α} {n : Nat} (hn : l.length = n) (h : w.ownsRow base e sz v n (l.flatMap f)) {k : Nat} (hk : k < n) :
    ∃ g cap, v = .slice (some ⟨g, 0, none⟩) n cap ∧ g < w.heap.size ∧ ∀ j u, (f (l[k]'(by omega)))[j]? = some u → w.cell? ⟨g, k * sz + j, none⟩ = some u := by
  rcases h.2 with ⟨e0, h0⟩ | ⟨g, cap, cur, e1, e2, e3, e4, e5, e6, e7⟩
  · omega
  · refine ⟨g, cap, e1, (Array.getElem?_eq_some_iff.1 e3).1, fun j u hu => ?_⟩
    have hj : j < sz := by have := (List.getElem?_eq_some_iff.1 hu).1; rw [hf] at this; exact this
    have hc := (chunk f sz hf l k j _ (List.getElem?_eq_getElem (by omega)) hj).trans hu
    rw [← e7] at hc
    have hlt : k * sz + j < n * sz := by
      have : (k + 1) * sz ≤ n * sz := Nat.mul_le_mul_right _ hk
      rw [Nat.add_mul, Nat.one_mul] at this
      omega
    rw [List.getElem?_take_of_lt hlt] at hc
    simp only [World.cell?, e3]
    simpa using hc
theorem owns_kp {w w' : World} {base B b : Nat} {e : TypeId} {size : Nat} {v : Value} {n : Nat} {xs : List Value} (h : w.ownsRow base e size v n xs) (he : e ≠ 5) (hb : ∀ g, v.ownBlock = some g → g ≠ b) (K : Kp B b w w') : w'.ownsRow base e size v n xs := by
  refine ⟨h.1, ?_⟩
  rcases h.2 with k2 | ⟨g, cap, cur, e1, h1, h2, h3⟩
  · exact .inl k2
  · refine .inr ⟨g, cap, cur, e1, h1, ?_, h3⟩
    have hs : Safe w b g := ⟨hb g (by rw [e1]; rfl), (Array.getElem?_eq_some_iff.1 h2).1, .inr fun cs f q => by
      rw [h2] at q
      simp only [Option.some.injEq, Obj.cells.injEq] at q
      exact he q.2.1⟩
    rw [K.safe g hs]; exact h2

/-- A step. -/
structure Sp where
  k : Int
  a : Int
  b : Int
  h : Int
  r : Int
  s : Int
  has : Bool
  bl : Int
  f : Int
def Sp.cells (x : Sp) : List Value := [.int .i64 x.k, .int .i64 x.a, .int .i64 x.b, .int .i64 x.h, .int .i64 x.r, .int .i64 x.s, .bool x.has, .int .u64 x.bl, .int .i64 x.f]
def InD (y : Int) : Prop := 0 ≤ y ∧ y ≤ 18446744073709551615
def Sp.In (x : Sp) : Prop := InN x.k ∧ InN x.a ∧ InN x.b ∧ InN x.h ∧ InN x.r ∧ InN x.s ∧ InD x.bl ∧ InN x.f
/-- A list of steps in memory. -/
def StepsAt (w : World) (la : Option Addr) (l : List Sp) : Prop :=
  l = [] ∨ ∃ b off, la = some ⟨b, off, none⟩ ∧ b < w.heap.size ∧ ∀ i x, l[i]? = some x → ∀ j u, x.cells[j]? = some u → w.cell? ⟨b, off + i * 9 + j, none⟩ = some u
theorem StepsAt.below {w w' : World} {la : Option Addr} {l : List Sp} (h : StepsAt w la l) (hb : Below w.heap.size w w') : StepsAt w' la l := by
  rcases h with h | ⟨b, off, e, hl, hc⟩
  · exact .inl h
  · exact .inr ⟨b, off, e, Nat.lt_of_lt_of_le hl hb.size, fun i x hx j u hu => by rw [hb.cell (p := ⟨b, off + i * 9 + j, none⟩) hl]; exact hc i x hx j u hu⟩
theorem StepsAt.one {w w' : World} {la : Option Addr} {l : List Sp} (h : StepsAt w la l) (hb : Below w.heap.size w w') {i : Nat} (hi : i < l.length) : ∃ b off, la = some ⟨b, off, none⟩ ∧ b < w'.heap.size ∧ w'.cell? ⟨b, off + i * 9, none⟩ = some (.int .i64 l[i].k) ∧ w'.cell? ⟨b, off + i * 9 + 1, none⟩ = some (.int .i64 l[i].a) ∧ w'.cell? ⟨b, off + i * 9 + 2, none⟩ = some (.int .i64 l[i].b) ∧ w'.cell? ⟨b, off + i * 9 + 3, none⟩ = some (.int .i64 l[i].h) ∧ w'.cell? ⟨b, off + i * 9 + 4, none⟩ = some (.int .i64 l[i].r) ∧ w'.cell? ⟨b, off + i * 9 + 5, none⟩ = some (.int .i64 l[i].s) ∧ w'.cell? ⟨b, off + i * 9 + 6, none⟩ = some (.bool l[i].has) ∧ w'.cell? ⟨b, off + i * 9 + 7, none⟩ = some (.int .u64 l[i].bl) ∧ w'.cell? ⟨b, off + i * 9 + 8, none⟩ = some (.int .i64 l[i].f) := by
  rcases h with h | ⟨b, off, e, hl, hc⟩
  · rw [h] at hi; simp at hi
  · have k : ∀ j u, (l[i].cells)[j]? = some u → w'.cell? ⟨b, off + i * 9 + j, none⟩ = some u := fun j u hu => by rw [hb.cell (p := ⟨b, off + i * 9 + j, none⟩) hl]; exact hc i _ (List.getElem?_eq_getElem hi) j u hu
    exact ⟨b, off, e, Nat.lt_of_lt_of_le hl hb.size, k 0 _ rfl, k 1 _ rfl, k 2 _ rfl, k 3 _ rfl, k 4 _ rfl, k 5 _ rfl, k 6 _ rfl, k 7 _ rfl, k 8 _ rfl⟩
theorem rc_len (v : Vk) : v.rc.toList.length = 38 := rfl
theorem bel_al {w0 w : World} (h : Below w0.heap.size w0 w) (o : Obj) : Below w0.heap.size w0 (w.alloc o) := h.alloc h.size o
end Go.Proofs.YtaifkidpdmhciaaGreat
