/- A log and what was written into it: what each call does to both. -/
import Derived.Test.YtaidiomaaldphaaQLog2
namespace Go.Proofs.Ytaidiomaaldphaa
open Go.RowKit
set_option linter.unusedVariables false
set_option linter.unusedSimpArgs false

/-- What pick gives. -/
def pickP (c n : Int) : Int := if c < 0 then (-(c + 1)) % n else c % n
theorem pickP_bd (c n : Int) (hn : 1 ≤ n) : 0 ≤ pickP c n ∧ pickP c n < n := by
  unfold pickP
  split
  · exact ⟨Int.emod_nonneg _ (by omega), Int.emod_lt_of_pos _ (by omega)⟩
  · exact ⟨Int.emod_nonneg _ (by omega), Int.emod_lt_of_pos _ (by omega)⟩
def InN (y : Int) : Prop := -9223372036854775808 ≤ y ∧ y ≤ 9223372036854775807

theorem pick_fn (c n : Int) (w : World) (hc : InN c) (hn : 1 ≤ n ∧ n ≤ 9223372036854775807) :
    Calls Try.prog 5 #[.int .i64 c, .int .i64 n] w fun e w' => e = .returned (.int .i64 (pickP c n)) ∧ w = w' := by
  unfold InN at hc
  by_cases h : c < 0
  · have hq := Int.emod_nonneg (-(c + 1)) (show n ≠ 0 by omega)
    have hq2 := Int.emod_lt_of_pos (-(c + 1)) (show 0 < n by omega)
    have HP : Hid (pickP c n = -(c + 1) % n) := by show _ = _; unfold pickP; rw [if_pos h]
    go_enter Try.func5, Try.ntmps5
    go_wp2
    go_ret
    have e : -((c + 1).tmod n) = -(c + 1) % n := by rw [← Int.neg_tmod, Int.tmod_eq_emod_of_nonneg (by omega)]
    exact ⟨by rw [HP.out, ← e]; rfl, rfl⟩
  · have hq := Int.emod_nonneg c (show n ≠ 0 by omega)
    have hq2 := Int.emod_lt_of_pos c (show 0 < n by omega)
    have HP : Hid (pickP c n = c % n) := by show _ = _; unfold pickP; rw [if_neg h]
    go_enter Try.func5, Try.ntmps5
    go_wp2
    go_ret
    exact ⟨by rw [HP.out]; rfl, rfl⟩

/-- Chunks of one size, one behind the other. -/
theorem chunk {α : Type} (f : α → List Value) (sz : Nat) (hf : ∀ a, (f a).length = sz) : ∀ (l : List α) (k j : Nat) (x : α), l[k]? = some x → j < sz → (l.flatMap f)[k * sz + j]? = (f x)[j]?
  | [], k, j, x, h, _ => by simp at h
  | y :: r, 0, j, x, h, hj => by
    simp only [List.getElem?_cons_zero, Option.some.injEq] at h
    subst h
    simp only [List.flatMap_cons, Nat.zero_mul, Nat.zero_add]
    rw [List.getElem?_append_left (by rw [hf]; exact hj)]
  | y :: r, k + 1, j, x, h, hj => by
    rw [List.getElem?_cons_succ] at h
    have h1 := chunk f sz hf r k j x h hj
    have e : (k + 1) * sz + j - sz = k * sz + j := by rw [Nat.add_mul, Nat.one_mul]; omega
    rw [List.flatMap_cons, List.getElem?_append_right (by rw [hf, Nat.add_mul]; omega), hf, e]
    exact h1
/-- The cells of a row that a list of chunks lies in. -/
theorem owns_chunk {α : Type} {f : α → List Value} {sz : Nat} (hf : ∀ a, (f a).length = sz) {w : World} {base : Nat} {e : TypeId} {v : Value} {l : List α} {n : Nat} (hn : l.length = n) (h : w.ownsRow base e sz v n (l.flatMap f)) {k : Nat} (hk : k < n) :
    ∃ g cap, v = .slice (some ⟨g, 0, none⟩) n cap ∧ g < w.heap.size ∧ ∀ j u, (f (l[k]'(by omega)))[j]? = some u → w.cell? ⟨g, k * sz + j, none⟩ = some u := by
  rcases h.2 with ⟨e0, h0⟩ | ⟨g, cap, cur, e1, e2, e3, e4, e5, e6, e7⟩
  · omega
  · refine ⟨g, cap, e1, (Array.getElem?_eq_some_iff.1 e3).1, fun j u hu => ?_⟩
    have hj : j < sz := by have := (List.getElem?_eq_some_iff.1 hu).1; rw [hf] at this; exact this
    have hc := (chunk f sz hf l k j _ (List.getElem?_eq_getElem (by omega)) hj).trans hu
    rw [← e7] at hc
    have hlt : k * sz + j < n * sz := by
      have : (k + 1) * sz ≤ n * sz := Nat.mul_le_mul_right _ hk
      rw [Nat.add_mul, Nat.one_mul] at this
      omega
    rw [List.getElem?_take_of_lt hlt] at hc
    simp only [World.cell?, e3]
    simpa using hc
theorem owns_kp {w w' : World} {base B b : Nat} {e : TypeId} {size : Nat} {v : Value} {n : Nat} {xs : List Value} (h : w.ownsRow base e size v n xs) (he : e ≠ 5) (hb : ∀ g, v.ownBlock = some g → g ≠ b) (K : Kp B b w w') : w'.ownsRow base e size v n xs := by
  refine ⟨h.1, ?_⟩
  rcases h.2 with k2 | ⟨g, cap, cur, e1, h1, h2, h3⟩
  · exact .inl k2
  · refine .inr ⟨g, cap, cur, e1, h1, ?_, h3⟩
    have hs : Safe w b g := ⟨hb g (by rw [e1]; rfl), (Array.getElem?_eq_some_iff.1 h2).1, .inr fun cs f q => by
      rw [h2] at q
      simp only [Option.some.injEq, Obj.cells.injEq] at q
      exact he q.2.1⟩
    rw [K.safe g hs]; exact h2

/-- A log of which A was written, s of it safe. -/
def LS (w : World) (lb : Nat) (A : List Vk) (s : Nat) (dn : Bool) : Prop :=
  ∃ (n sf : Nat) (lf kp : Int), LogAt w lb ((frs A).take n) sf dn lf kp ∧ n ≤ (frs A).length ∧ sf ≤ n ∧ (dn = false → n = (frs A).length) ∧ InN lf ∧ InN kp ∧ (frs (A.take s)).length ≤ sf ∧ s ≤ A.length ∧ (∀ a ∈ A, a.Ok) ∧ A.length ≤ 512
theorem LS.below {w w' : World} {lb : Nat} {A : List Vk} {s : Nat} {dn : Bool} (h : LS w lb A s dn) (hb : Below w.heap.size w w') : LS w' lb A s dn := by
  obtain ⟨n, sf, lf, kp, L, r⟩ := h
  exact ⟨n, sf, lf, kp, L.below hb, r⟩
theorem LS.lt {w : World} {lb : Nat} {A : List Vk} {s : Nat} {dn : Bool} (h : LS w lb A s dn) : lb < w.heap.size := by
  obtain ⟨n, sf, lf, kp, L, r⟩ := h
  exact L.lt
theorem take_len' (A : List Vk) (n : Nat) (h : n ≤ (frs A).length) : ((frs A).take n).length = n := by rw [List.length_take]; omega
theorem LS.of_acted {w w' : World} {lb : Nat} {A : List Vk} {s sf : Nat} {d : Bool} (h : Acted lb (frs A) sf d w w') (h1 : (frs (A.take s)).length ≤ sf) (h2 : sf ≤ (frs A).length) (hs : s ≤ A.length) (hA : ∀ a ∈ A, a.Ok) (hl : A.length ≤ 512) : LS w' lb A s d := by
  rcases h.1 with ⟨rfl, lf, kp, hlf, hkp, L⟩ | ⟨rfl, m, hm1, hm2, L⟩
  · exact ⟨(frs A).length, sf, lf, kp, by rw [List.take_length]; exact L, Nat.le_refl _, h2, fun _ => rfl, hlf, hkp, h1, hs, hA, hl⟩
  · exact ⟨m, m, 0, 0, L, hm2, Nat.le_refl _, fun q => (by cases q), (by unfold InN; omega), (by unfold InN; omega), by omega, hs, hA, hl⟩

/-- What Sync says and leaves. -/
def SyE (lb : Nat) (A : List Vk) (s : Nat) (w : World) (e : Ending) (w' : World) : Prop :=
  Kp lb lb w w' ∧ ((e = .returned (.int .i64 27) ∧ ∃ d, LS w' lb A s d) ∨ (e = .returned (.int .i64 0) ∧ ∃ d, LS w' lb A A.length d))
theorem LS.sync {w : World} {lb : Nat} {A : List Vk} {s : Nat} {dn : Bool} (H : LS w lb A s dn) : Calls Try.prog 6 #[.pointer (some ⟨lb, 0, none⟩)] w fun e w' => SyE lb A s w e w' := by
  have H0 := H
  obtain ⟨n, sf, lf, kp, L, h1, h2, h3, h4, h5, h6, h7, hA, hl⟩ := H
  have hsm := frs_small A
  have htl := take_len' A n h1
  refine (sync_any lb ((frs A).take n) sf dn lf kp w L (by omega) (by omega) h4 h5).mono ?_
  intro e w' h
  rcases h with ⟨rfl, ⟨rfl, rfl⟩ | ⟨rfl, Ac⟩⟩ | ⟨rfl, rfl, Ac⟩
  · exact ⟨Kp.refl _ _ _, .inl ⟨rfl, _, H0⟩⟩
  · obtain rfl := h3 rfl
    rw [List.take_length] at Ac
    exact ⟨Ac.2, .inl ⟨rfl, _, LS.of_acted Ac h6 h2 h7 hA hl⟩⟩
  · obtain rfl := h3 rfl
    rw [List.take_length] at Ac
    exact ⟨Ac.2, .inr ⟨rfl, _, LS.of_acted Ac (by rw [List.take_length]; exact Nat.le_refl _) (Nat.le_refl _) (Nat.le_refl _) hA hl⟩⟩
theorem LS.arm {w : World} {lb : Nat} {A : List Vk} {s : Nat} {dn : Bool} (H : LS w lb A s dn) (a b : Int) (ha : InN a) (hb : InN b) : Calls Try.prog 7 #[.pointer (some ⟨lb, 0, none⟩), .int .i64 a, .int .i64 b] w fun e w' => e = .returned (.tuple #[]) ∧ LS w' lb A s dn ∧ Kp lb lb w w' := by
  obtain ⟨n, sf, lf, kp, L, h1, h2, h3, h4, h5, h6⟩ := H
  refine (arm_any lb _ sf dn lf kp a b w L).mono ?_
  rintro e w' ⟨rfl, L', K⟩
  exact ⟨rfl, ⟨n, sf, a, b, L', h1, h2, h3, ha, hb, h6⟩, K⟩
/-- What Die leaves. -/
def DiE (lb : Nat) (A : List Vk) (s : Nat) (w : World) (e : Ending) (w' : World) : Prop := e = .returned (.tuple #[]) ∧ (∃ d, LS w' lb A s d) ∧ Kp lb lb w w'
theorem LS.die {w : World} {lb : Nat} {A : List Vk} {s : Nat} {dn : Bool} (H : LS w lb A s dn) (a : Int) (ha : InN a) : Calls Try.prog 8 #[.pointer (some ⟨lb, 0, none⟩), .int .i64 a] w fun e w' => DiE lb A s w e w' := by
  have H0 := H
  obtain ⟨n, sf, lf, kp, L, h1, h2, h3, h4, h5, h6, h7, hA, hl⟩ := H
  have hsm := frs_small A
  have htl := take_len' A n h1
  cases dn
  · obtain rfl := h3 rfl
    rw [List.take_length] at L
    refine (die_any lb (frs A) sf false lf kp a w L h2 (by omega) ha).mono ?_
    rintro e w' ⟨rfl, ⟨m, hm1, hm2, _, L'⟩, K⟩
    exact ⟨rfl, ⟨true, m, m, 0, 0, L', hm2, Nat.le_refl _, fun q => (by cases q), (by unfold InN; omega), (by unfold InN; omega), by omega, h7, hA, hl⟩, K⟩
  · refine (die_down lb _ sf lf kp a w L).mono ?_
    rintro e w' ⟨rfl, rfl⟩
    exact ⟨rfl, ⟨true, H0⟩, Kp.refl _ _ _⟩
theorem LS.down {w : World} {lb : Nat} {A : List Vk} {s : Nat} {dn : Bool} (H : LS w lb A s dn) : Calls Try.prog 10 #[.pointer (some ⟨lb, 0, none⟩)] w fun e w' => e = .returned (.bool dn) ∧ w = w' := by
  obtain ⟨n, sf, lf, kp, L, h1⟩ := H
  exact down_any lb _ sf dn lf kp w L
/-- What Append says and leaves. -/
def ApE (lb : Nat) (A : List Vk) (v : Vk) (s : Nat) (dn : Bool) (w : World) (e : Ending) (w' : World) : Prop :=
  Kp lb lb w w' ∧ ((dn = true ∧ e = .returned (.int .i64 27) ∧ LS w' lb A s true) ∨ (dn = false ∧ ((e = .returned (.int .i64 27) ∧ LS w' lb (A ++ [v]) s true) ∨ (e = .returned (.int .i64 0) ∧ LS w' lb (A ++ [v]) s false))))
theorem LS.append {w : World} {lb : Nat} {A : List Vk} {s : Nat} {dn : Bool} (H : LS w lb A s dn) (v : Vk) (hv : v.Ok) (hl1 : A.length < 512) : Calls Try.prog 11 #[.pointer (some ⟨lb, 0, none⟩), .agg v.rc] w fun e w' => ApE lb A v s dn w e w' := by
  obtain ⟨n, sf, lf, kp, L, h1, h2, h3, h4, h5, h6, h7, hA, hl⟩ := H
  have hsm := frs_small A
  have htl := take_len' A n h1
  have hA' : ∀ a ∈ A ++ [v], a.Ok := fun a ha => by
    rcases List.mem_append.1 ha with q | q
    · exact hA a q
    · simp at q; subst q; exact hv
  have htk : (A ++ [v]).take s = A.take s := List.take_append_of_le_length h7
  have hfa : frs (A ++ [v]) = frs A ++ v.fr := by rw [frs_app, frs_cons, frs_nil, List.append_nil]
  refine (append_any lb ((frs A).take n) sf dn lf kp v hv w L (by omega) (by omega) h4 h5).mono ?_
  intro e w' h
  rcases h with ⟨rfl, rfl, L', K⟩ | ⟨rfl, h⟩
  · exact ⟨K, .inl ⟨rfl, rfl, n, sf, lf, kp, L', h1, h2, (fun q => by cases q), h4, h5, h6, h7, hA, hl⟩⟩
  · obtain rfl := h3 rfl
    rw [List.take_length, ← hfa] at h
    have hle : sf ≤ (frs (A ++ [v])).length := by rw [hfa, List.length_append]; omega
    have hlen : (A ++ [v]).length ≤ 512 := by simp; omega
    rcases h with ⟨rfl, Ac⟩ | ⟨rfl, Ac⟩
    · exact ⟨Ac.2, .inr ⟨rfl, .inl ⟨rfl, LS.of_acted Ac (by rw [htk]; exact h6) hle (by simp; omega) hA' hlen⟩⟩⟩
    · exact ⟨Ac.2, .inr ⟨rfl, .inr ⟨rfl, LS.of_acted Ac (by rw [htk]; exact h6) hle (by simp; omega) hA' hlen⟩⟩⟩
/-- What Begin gives and leaves. -/
def BgE (lb : Nat) (A : List Vk) (s : Nat) (w : World) (e : Ending) (w' : World) : Prop :=
  ∃ rv J, e = .returned rv ∧ s ≤ J ∧ J ≤ A.length ∧ w'.ownsRow w.heap.size 54 38 rv J (flatR (A.take J)) ∧ LS w' lb (A.take J) J false ∧ Kp lb lb w w'
theorem LS.begin {w : World} {lb : Nat} {A : List Vk} {s : Nat} {dn : Bool} (H : LS w lb A s dn) : Calls Try.prog 9 #[.pointer (some ⟨lb, 0, none⟩)] w fun e w' => BgE lb A s w e w' := by
  obtain ⟨n, sf, lf, kp, L, h1, h2, h3, h4, h5, h6, h7, hA, hl⟩ := H
  refine (begin_rest lb A n sf dn lf kp w L hA hl h1 h2 h4 h5).mono ?_
  rintro e w' ⟨rv, lf', kp', rfl, orv, L', hlf', hkp', K⟩
  have hj := whole_le A n
  have hge := whole_ge A n s h7 (by omega)
  have hjl : (A.take (whole A n)).length = whole A n := by rw [List.length_take]; omega
  refine ⟨rv, whole A n, rfl, hge, hj, orv, ⟨(frs (A.take (whole A n))).length, (frs (A.take (whole A n))).length, lf', kp', by rw [List.take_length]; exact L', Nat.le_refl _, Nat.le_refl _, fun _ => rfl, hlf', hkp', ?_, by omega, fun a ha => hA a (List.mem_of_mem_take ha), by omega⟩, K⟩
  rw [List.take_of_length_le (by omega)]
  exact Nat.le_refl _
end Go.Proofs.Ytaidiomaaldphaa
