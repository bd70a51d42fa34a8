/- slices.Insert and slices.BinarySearch of numbers: contracts of the library, at this program. -/
import Derived.Test.YtimcddknoanghaaKOthers
import Derived.Shelf.Spec.SlicesInsertGrow
import Derived.Shelf.Slices.SearchI
import Derived.Shelf.Slices.Empties
namespace Go.Proofs.Ytimcddknoanghaa
open Go.RowKit Go.Shelf
set_option linter.unusedVariables false
set_option linter.unusedSimpArgs false

def lays21_ren : Go.Shelf.Ren := ⟨fun | 21 => 26 | 27 => 47 | 28 => 48 | 35 => 63 | 39 => 77 | n => n, fun | 22 => 24 | 3 => 3 | 4 => 4 | 0 => 0 | n => n, fun | n => n⟩
theorem lays21 : Go.Proofs.Lays2.n21 Try.prog lays21_ren := {
  mixed := by kernel_rfl
  f21 := Try.func26.trans (congrArg some (by kernel_rfl))
  f27 := Try.func47.trans (congrArg some (by kernel_rfl))
  f28 := Try.func48.trans (congrArg some (by kernel_rfl))
  f35 := Try.func63.trans (congrArg some (by kernel_rfl))
  f39 := Try.func77.trans (congrArg some (by kernel_rfl))
  t0 := Try.underlying0
  a0 := Try.isAgg0
  z0 := Try.sizeOf0
  v0 := Try.zeroValue0
  t3 := Try.underlying3
  a3 := Try.isAgg3
  z3 := Try.sizeOf3
  v3 := Try.zeroValue3
  t4 := Try.underlying4
  a4 := Try.isAgg4
  z4 := Try.sizeOf4
  v4 := Try.zeroValue4
  t22 := Try.underlying24
  a22 := Try.isAgg24
  z22 := Try.sizeOf24
  v22 := Try.zeroValue24
  i3 := by kernel_rfl }
def lays25_ren : Go.Shelf.Ren := ⟨fun | 25 => 25 | 31 => 45 | 32 => 46 | 37 => 62 | n => n, fun | 22 => 24 | 3 => 3 | 4 => 4 | 40 => 80 | 0 => 0 | n => n, fun | n => n⟩
theorem lays25 : Go.Proofs.Lays2.n25 Try.prog lays25_ren := {
  mixed := by kernel_rfl
  f25 := Try.func25.trans (congrArg some (by kernel_rfl))
  f31 := Try.func45.trans (congrArg some (by kernel_rfl))
  f32 := Try.func46.trans (congrArg some (by kernel_rfl))
  f37 := Try.func62.trans (congrArg some (by kernel_rfl))
  t0 := Try.underlying0
  a0 := Try.isAgg0
  z0 := Try.sizeOf0
  v0 := Try.zeroValue0
  t3 := Try.underlying3
  a3 := Try.isAgg3
  z3 := Try.sizeOf3
  v3 := Try.zeroValue3
  t4 := Try.underlying4
  a4 := Try.isAgg4
  z4 := Try.sizeOf4
  v4 := Try.zeroValue4
  t22 := Try.underlying24
  a22 := Try.isAgg24
  z22 := Try.sizeOf24
  v22 := Try.zeroValue24
  t40 := Try.underlying80
  a40 := Try.isAgg80
  z40 := Try.sizeOf80
  v40 := Try.zeroValue80 }

/-- All but one block. -/
theorem grown_setCell {w0 w : World} {g : Nat} (h : w0.grownBy w (some g)) {p : Addr} (hp : p.block = g) (v : Value) : w0.grownBy (w.setCell p v) (some g) :=
  ⟨h.os, h.tape, h.output, by rw [World.size_setCell]; exact h.size, fun k hk hne => by rw [Below.heap_setCell _ _ _ _ (by rw [hp]; exact fun e => hne (by rw [e]))]; exact h.block k hk hne⟩
theorem grown_setCells {w0 : World} {g : Nat} : ∀ (vs : List Value) (o : Nat) (w : World), w0.grownBy w (some g) → w0.grownBy (w.setCells g o vs) (some g)
  | [], _, _, h => h
  | v :: r, o, w, h => by rw [World.setCells]; exact grown_setCells r _ _ (grown_setCell h rfl v)
theorem grown_new {w0 : World} {row : Option Nat} {g : Nat} (hg : w0.heap.size ≤ g) : ∀ (vs : List Value) (o : Nat) (w : World), w0.grownBy w row → w0.grownBy (w.setCells g o vs) row
  | [], _, _, h => h
  | v :: r, o, w, h => by
    rw [World.setCells]
    exact grown_new hg r _ _ ⟨h.os, h.tape, h.output, by rw [World.size_setCell]; exact h.size, fun k hk hne => by rw [Below.heap_setCell _ _ _ _ (by show k ≠ g; omega)]; exact h.block k hk hne⟩
theorem blk_setCells {g : Nat} {t : TypeId} : ∀ (vs : List Value) (o : Nat) (w : World) (cs : Array Value), Blk w g cs t → ∃ cs', Blk (w.setCells g o vs) g cs' t ∧ cs'.size = cs.size
  | [], _, _, cs, h => ⟨cs, h, rfl⟩
  | v :: r, o, w, cs, h => by
    rw [World.setCells]
    obtain ⟨cs', h1, h2⟩ := blk_setCells r (o + 1) _ _ (h.set o v)
    exact ⟨cs', h1, by rw [h2]; simp⟩
theorem owns_mk {w : World} {base g cap n : Nat} {cs : Array Value} {xs : List Value} (h : Blk w g cs 3) (hb : base ≤ g) (hn : n ≤ cap) (hm : cap ≤ maxLen) (hs : cs.size = cap) (hx : xs.length = n) (hc : ∀ j u, xs[j]? = some u → w.cell? ⟨g, j, none⟩ = some u) : w.ownsRow base 3 1 (.slice (some ⟨g, 0, none⟩) n cap) n xs := by
  refine ⟨by omega, .inr ⟨g, cap, cs, rfl, hb, h, hn, hm, by omega, ?_⟩⟩
  rw [Nat.mul_one]
  apply List.ext_getElem?
  intro j
  by_cases hj : j < n
  · rw [List.getElem?_take_of_lt hj]
    have hj2 : j < xs.length := by omega
    have := hc j _ (List.getElem?_eq_getElem hj2)
    rw [h.cell] at this
    rw [List.getElem?_eq_getElem hj2, ← this]
    simp
  · rw [List.getElem?_eq_none (by simp; omega), List.getElem?_eq_none (by omega)]

/-- One more at a place. -/
def insAt (rs : List Int) (i : Nat) (r : Int) : List Int := rs.take i ++ r :: rs.drop i
theorem insAt_len (rs : List Int) (i : Nat) (r : Int) (hi : i ≤ rs.length) : (insAt rs i r).length = rs.length + 1 := by simp [insAt]; omega
theorem ins_get {rs : List Int} {i : Nat} {r : Int} (hi : i ≤ rs.length) (j : Nat) (u : Value) (h : (flatI (insAt rs i r))[j]? = some u) : (j < i ∧ (flatI rs)[j]? = some u) ∨ (j = i ∧ u = .int .i64 r) ∨ (i < j ∧ (flatI rs)[j - 1]? = some u) := by
  unfold flatI insAt at h
  rw [List.map_append, List.map_cons] at h
  have hl : ((rs.take i).map (Value.int .i64)).length = i := by simp; omega
  by_cases h1 : j < i
  · rw [List.getElem?_append_left (by omega), List.getElem?_map, List.getElem?_take_of_lt h1] at h
    exact .inl ⟨h1, by unfold flatI; rw [List.getElem?_map]; exact h⟩
  · rw [List.getElem?_append_right (by omega), hl] at h
    by_cases h2 : j = i
    · subst h2; simp at h; exact .inr (.inl ⟨rfl, h.symm⟩)
    · obtain ⟨k, hk⟩ : ∃ k, j - i = k + 1 := ⟨j - i - 1, by omega⟩
      rw [hk, List.getElem?_cons_succ, List.getElem?_map, List.getElem?_drop] at h
      refine .inr (.inr ⟨by omega, ?_⟩)
      unfold flatI
      rw [List.getElem?_map, show j - 1 = i + k by omega]; exact h
theorem zeros_size (n : Nat) : (Builtin.zeroCells (Value.int .i64 0).cells n).size = n := by simp [Builtin.zeroCells, Value.cells]

set_option maxRecDepth 4000 in
theorem ins_any (base : Nat) (rv : Value) (rs : List Int) (i : Nat) (r : Int) (vb : Nat) (w : World) (hown : w.ownsRow base 3 1 rv rs.length (flatI rs)) (hi : i ≤ rs.length) (hl : rs.length ≤ 100000) (kV : Blk w vb #[.int .i64 r] 3) (hvb : rv.ownBlock ≠ some vb) (hbs : base ≤ w.heap.size) :
    Calls Try.prog 26 #[rv, .int .i64 i, .slice (some ⟨vb, 0, none⟩) 1 1] w fun e w' => ∃ v, e = .returned v ∧ w'.ownsRow base 3 1 v (rs.length + 1) (flatI (insAt rs i r)) ∧ w.grownBy w' rv.ownBlock ∧ (v.ownBlock = rv.ownBlock ∨ v.ownBlock = some w.heap.size) := by
  have hV : ∀ (j : Nat) (v : Value), [Value.int .i64 r][j]? = some v → w.cell? ⟨vb, 0 + j, none⟩ = some v := fun j v h => by
    rw [kV.cell, Nat.zero_add]; simpa using h
  have h1v : ∀ v ∈ [Value.int .i64 r], v.oneCell' = true := fun v hv => by rw [List.mem_singleton.1 hv]; rfl
  have hcl : (flatI rs).length = rs.length := by rw [flatI_len, Nat.mul_one]
  have hil : (flatI (insAt rs i r)).length = rs.length + 1 := by rw [flatI_len, Nat.mul_one, insAt_len rs i r hi]
  have hm : rs.length + 1 ≤ maxLen := by unfold maxLen; omega
  have gd : w.grownBy w.drew none := ⟨rfl, rfl, rfl, Nat.le_refl _, fun _ _ _ => rfl⟩
  have hNew : ∀ (A : Array Value) (row : Option Nat), w.grownBy (w.drew.alloc (.cells A 3)) row := fun A row => ⟨rfl, rfl, rfl, by rw [World.size_alloc]; exact Nat.le_succ _, fun k hk _ => Below.heap_alloc w.drew _ k hk⟩
  have hEnd : ∀ (la : Option Addr) (c : Nat), rs.length ≤ c → c < rs.length + 1 → i = rs.length → (la = none → rs.length = 0) → (∀ (a : Addr), la = some a → ∀ (j : Nat) (v : Value), (flatI rs)[j]? = some v → w.cell? (a.add j) = some v) →
      Calls Try.prog 26 #[.slice la rs.length c, .int .i64 i, .slice (some ⟨vb, 0, none⟩) 1 1] w fun e w' => ∃ v, e = .returned v ∧ w'.ownsRow base 3 1 v (rs.length + 1) (flatI (insAt rs i r)) ∧ (∀ row, w.grownBy w' row) ∧ v.ownBlock = some w.heap.size := fun la c h1 h2 h3 h4 h5 => by
    subst h3
    have K := Any2.slices_Insert_int_end_grow lays21 la rs.length c vb 0 1 1 (flatI rs) [.int .i64 r] w (by omega) h1 h2 (by omega) hcl rfl h4 h5 hV h1v
    rw [show lays21_ren.t 3 = 3 from rfl] at K
    change Calls Try.prog 26 _ _ _ at K
    refine K.mono ?_
    rintro e w' ⟨rfl, rfl⟩
    have hG := grownCap_ge w (rs.length + 1) c 3
    have kN : Blk (w.drew.alloc (.cells ((flatI rs ++ [Value.int .i64 r]).toArray ++ Builtin.zeroCells (Value.int .i64 0).cells (grownCap w (rs.length + 1) c 3 - (rs.length + 1))) 3)) w.heap.size _ 3 := Blk.new w.drew _ _
    refine ⟨_, rfl, owns_mk kN hbs hG (grownCap_le_maxLen _ _ _ _ hm) (by simp only [Array.size_append, List.size_toArray, List.length_append, List.length_singleton, hcl, zeros_size]; omega) hil (fun j u hj => ?_), fun row => hNew _ row, rfl⟩
    rw [kN.cell]
    have hjl : j < rs.length + 1 := by have := (List.getElem?_eq_some_iff.1 hj).1; omega
    have hj2 : (flatI rs ++ [Value.int .i64 r])[j]? = some u := by
      have e : insAt rs rs.length r = rs ++ [r] := by simp [insAt]
      rw [e, flatI_app] at hj; exact hj
    rw [Array.getElem?_append_left (by simp [hcl]; omega)]
    simpa using hj2
  rcases hown.2 with ⟨rfl, h0⟩ | ⟨g, cap, cur, rfl, hbg, hgh, hnc, hcm, hsz, htk⟩
  · have e0 : rs = [] := List.eq_nil_of_length_eq_zero h0
    subst e0
    refine (hEnd none 0 (by simp) (by simp) (by simpa using hi) (fun _ => rfl) (fun a h => by cases h)).mono ?_
    rintro e w' ⟨v, rfl, h1, h2, h3⟩
    exact ⟨v, rfl, h1, h2 _, .inr h3⟩
  · have kG : Blk w g cur 3 := hgh
    have hcs : ∀ (j : Nat) (v : Value), (flatI rs)[j]? = some v → w.cell? ⟨g, 0 + j, none⟩ = some v := fun j v h => by
      rw [Nat.zero_add, kG.cell]
      have hj : j < rs.length := by have := (List.getElem?_eq_some_iff.1 h).1; omega
      rw [← htk, List.getElem?_take_of_lt (by omega)] at h
      simpa using h
    have hne : vb ≠ g := fun e => hvb (by rw [e]; rfl)
    have hgl := kG.lt
    have hsome : ∀ j, j < cap → (w.cell? ⟨g, 0 + j, none⟩).isSome = true := fun j hj => by
      rw [Nat.zero_add, kG.cell, Array.getElem?_eq_getElem (by omega)]; rfl
    have hfz : ∀ j, w.frozen? ⟨g, 0 + j, none⟩ = false := fun j => kG.frozen _
    have gr : w.grownBy w.drew (some g) := ⟨rfl, rfl, rfl, Nat.le_refl _, fun _ _ _ => rfl⟩
    by_cases hroom : rs.length + 1 ≤ cap
    · by_cases hie : i = rs.length
      · subst hie
        have K := Any2.slices_Insert_int_end_room lays21 g 0 rs.length cap vb 0 1 1 [.int .i64 r] w (by omega) hroom (by unfold maxLen at hcm; omega) rfl (fun j hj => by rw [Nat.add_assoc]; exact hsome _ (by omega)) (fun j hj => by rw [Nat.add_assoc]; exact hfz _) hV h1v
        change Calls Try.prog 26 _ _ _ at K
        refine K.mono ?_
        rintro e w' ⟨rfl, rfl⟩
        obtain ⟨cs', k1, k2⟩ := blk_setCells [.int .i64 r] (0 + rs.length) w cur kG
        refine ⟨_, rfl, owns_mk k1 hbg hroom hcm (by rw [k2, hsz, Nat.mul_one]) hil (fun j u hj => ?_), grown_setCells _ _ _ ⟨rfl, rfl, rfl, Nat.le_refl _, fun _ _ _ => rfl⟩, .inl rfl⟩
        rcases ins_get (Nat.le_refl _) j u hj with ⟨q1, q2⟩ | ⟨rfl, rfl⟩ | ⟨q1, q2⟩
        · rw [World.cell?_setCells_out _ _ _ _ _ (fun _ _ => by left; show j < 0 + rs.length; omega)]
          have := hcs j u q2; rwa [Nat.zero_add] at this
        · have := World.cell?_setCells_in g [Value.int .i64 r] (0 + rs.length) w (fun j hj => by simp at hj; subst hj; exact hsome _ (by omega)) 0 (by simp)
          simpa using this
        · have := (List.getElem?_eq_some_iff.1 q2).1; omega
      · have K := Any2.slices_Insert_int_shift lays21 g 0 rs.length cap i vb 0 1 1 (flatI rs) [.int .i64 r] w (by omega) (by omega) hroom (by unfold maxLen at hcm; omega) hne hcl rfl hcs (fun j hj => hsome j (by omega)) (fun j _ => hfz j) hV (flatI_one rs) h1v 3 3 1 cap (by have := kV; unfold Blk at this; simp [World.shape?, this]) (by have := kG; unfold Blk at this; simp [World.shape?, this]; omega) (by omega) (kV.frozen 0) (kV.frozen 1)
        change Calls Try.prog 26 _ _ _ at K
        refine K.mono ?_
        rintro e w' ⟨rfl, rfl⟩
        obtain ⟨cs', k1, k2⟩ := blk_setCells ((flatI rs).drop i) (0 + (i + 1)) w.drew cur kG.drew
        obtain ⟨cs2, k3, k4⟩ := blk_setCells [.int .i64 r] (0 + i) _ cs' k1
        have hdl : ((flatI rs).drop i).length = rs.length - i := by rw [List.length_drop, hcl]
        have hs1 : ∀ k, (w.cell? ⟨g, k, none⟩).isSome = true → ((w.drew.setCells g (0 + (i + 1)) ((flatI rs).drop i)).cell? ⟨g, k, none⟩).isSome = true := fun k hk => Go.Proofs.isSome_setCells g _ _ w.drew (fun q hq => by have := hsome (i + 1 + q) (by omega); rwa [Nat.zero_add] at this ⊢) k hk
        refine ⟨_, rfl, owns_mk k3 hbg hroom hcm (by rw [k4, k2, hsz, Nat.mul_one]) hil (fun j u hj => ?_), grown_setCells _ _ _ (grown_setCells _ _ _ gr), .inl rfl⟩
        rcases ins_get hi j u hj with ⟨q1, q2⟩ | ⟨rfl, rfl⟩ | ⟨q1, q2⟩
        · rw [World.cell?_setCells_out _ _ _ _ _ (fun _ _ => by left; show j < 0 + i; omega), World.cell?_setCells_out _ _ _ _ _ (fun _ _ => by left; show j < 0 + (i + 1); omega)]
          have := hcs j u q2; rwa [Nat.zero_add] at this
        · have := World.cell?_setCells_in g [Value.int .i64 r] (0 + j) (w.drew.setCells g (0 + (j + 1)) ((flatI rs).drop j)) (fun k hk => by simp at hk; subst hk; exact hs1 _ (hsome _ (by omega))) 0 (by simp)
          simpa using this
        · rw [World.cell?_setCells_out _ _ _ _ _ (fun _ _ => by right; show 0 + i + 1 ≤ j; omega)]
          have hjl := (List.getElem?_eq_some_iff.1 q2).1
          have hkl : j - (i + 1) < ((flatI rs).drop i).length := by rw [hdl]; omega
          have := World.cell?_setCells_in g ((flatI rs).drop i) (0 + (i + 1)) w.drew (fun k hk => by have := hsome (i + 1 + k) (by omega); rwa [Nat.zero_add] at this ⊢) (j - (i + 1)) hkl
          rw [show 0 + (i + 1) + (j - (i + 1)) = j by omega] at this
          rw [this, ← List.getElem?_eq_getElem hkl, List.getElem?_drop, show i + (j - (i + 1)) = j - 1 by omega]
          exact q2
    · by_cases hie : i = rs.length
      · refine (hEnd (some ⟨g, 0, none⟩) cap hnc (by omega) hie (fun h => by cases h) (fun a ha j v hj => by cases ha; rw [Addr.add_lit]; exact hcs j v hj)).mono ?_
        rintro e w' ⟨v, rfl, h1, h2, h3⟩
        exact ⟨v, rfl, h1, h2 _, .inr h3⟩
      · have K := Any2.slices_Insert_int_grow lays21 g 0 rs.length cap i vb 0 1 1 (flatI rs) [.int .i64 r] w (by omega) (by omega) hnc (by omega) (by omega) hcl rfl hcs hV (flatI_one rs) h1v
        rw [show lays21_ren.t 3 = 3 from rfl] at K
        change Calls Try.prog 26 _ _ _ at K
        refine K.mono ?_
        rintro e w' ⟨rfl, rfl⟩
        have hG := grownCap_ge w (rs.length + 1) cap 3
        obtain ⟨ROW, hROW⟩ : ∃ ROW : Array Value, ROW = ((flatI rs).take i).toArray ++ Builtin.zeroCells (Value.int .i64 0).cells (rs.length + 1 - i) ++ Builtin.zeroCells (Value.int .i64 0).cells (grownCap w (rs.length + 1) cap 3 - (rs.length + 1)) := ⟨_, rfl⟩
        have hRs : ROW.size = grownCap w (rs.length + 1) cap 3 := by
          rw [hROW]
          simp only [Array.size_append, List.size_toArray, List.length_take, hcl, zeros_size]
          omega
        have hR1 : ∀ j, j < i → ROW[j]? = (flatI rs)[j]? := fun j hj => by
          rw [hROW, Array.getElem?_append_left (by simp [hcl, zeros_size]; omega), Array.getElem?_append_left (by simp [hcl]; omega)]
          rw [List.getElem?_toArray, List.getElem?_take_of_lt hj]
        rw [← hROW]
        have k0 : Blk (w.alloc (.cells ROW 3)).drew w.heap.size ROW 3 := (Blk.new w ROW 3).drew
        obtain ⟨cs1, k1, e1⟩ := blk_setCells [.int .i64 r] i _ ROW k0
        obtain ⟨cs2, k3, e3⟩ := blk_setCells ((flatI rs).drop i) (i + 1) _ cs1 k1.drew
        have hdl : ((flatI rs).drop i).length = rs.length - i := by rw [List.length_drop, hcl]
        have hsN : ∀ k, k < rs.length + 1 → ((w.alloc (.cells ROW 3)).drew.cell? ⟨w.heap.size, k, none⟩).isSome = true := fun k hk => by
          rw [k0.cell, Array.getElem?_eq_getElem (by omega)]; rfl
        have hs1 : ∀ k, k < rs.length + 1 → (((w.alloc (.cells ROW 3)).drew.setCells w.heap.size i [.int .i64 r]).drew.cell? ⟨w.heap.size, k, none⟩).isSome = true := fun k hk => Go.Proofs.isSome_setCells w.heap.size [.int .i64 r] i _ (fun q hq => hsN _ (by simp at hq; omega)) k (hsN k hk)
        have g0 : w.grownBy (w.alloc (.cells ROW 3)).drew (some g) := ⟨rfl, rfl, rfl, by show _ ≤ (w.alloc _).heap.size; rw [World.size_alloc]; exact Nat.le_succ _, fun k hk _ => Below.heap_alloc w _ k hk⟩
        have g1 := grown_new (Nat.le_refl _) [Value.int .i64 r] i _ g0
        have g2 : w.grownBy ((w.alloc (.cells ROW 3)).drew.setCells w.heap.size i [.int .i64 r]).drew (some g) := ⟨g1.os, g1.tape, g1.output, g1.size, g1.block⟩
        refine ⟨_, rfl, owns_mk k3 hbs hG (grownCap_le_maxLen _ _ _ _ hm) (by rw [e3, e1, hRs]) hil (fun j u hj => ?_), grown_new (Nat.le_refl _) _ _ _ g2, .inr rfl⟩
        rcases ins_get hi j u hj with ⟨q1, q2⟩ | ⟨rfl, rfl⟩ | ⟨q1, q2⟩
        · rw [World.cell?_setCells_out _ _ _ _ _ (fun _ _ => by left; show j < i + 1; omega)]
          show ((w.alloc (.cells ROW 3)).drew.setCells w.heap.size i [.int .i64 r]).cell? _ = _
          rw [World.cell?_setCells_out _ _ _ _ _ (fun _ _ => by left; show j < i; omega), k0.cell, hR1 j q1]
          exact q2
        · rw [World.cell?_setCells_out _ _ _ _ _ (fun _ _ => by left; show j < j + 1; omega)]
          show ((w.alloc (.cells ROW 3)).drew.setCells w.heap.size j [.int .i64 r]).cell? _ = _
          have := World.cell?_setCells_in w.heap.size [Value.int .i64 r] j (w.alloc (.cells ROW 3)).drew (fun k hk => by simp at hk; subst hk; exact hsN _ (by omega)) 0 (by simp)
          simpa using this
        · have hjl := (List.getElem?_eq_some_iff.1 q2).1
          have hkl : j - (i + 1) < ((flatI rs).drop i).length := by rw [hdl]; omega
          have := World.cell?_setCells_in w.heap.size ((flatI rs).drop i) (i + 1) _ (fun k hk => hs1 _ (by omega)) (j - (i + 1)) hkl
          rw [show i + 1 + (j - (i + 1)) = j by omega] at this
          rw [this, ← List.getElem?_eq_getElem hkl, List.getElem?_drop, show i + (j - (i + 1)) = j - 1 by omega]
          exact q2

/-- BinarySearch of what rises. -/
theorem bins_any (base : Nat) (rv : Value) (rs : List Int) (x : Int) (w : World) (hown : w.ownsRow base 3 1 rv rs.length (flatI rs)) (hl : rs.length ≤ 100000) (hs : rs.Pairwise (· < ·)) :
    Calls Try.prog 25 #[rv, .int .i64 x] w fun e w' => e = .returned (.tuple #[.int .i64 ((rs.countP (· < x) : Nat) : Int), .bool (rs.contains x)]) ∧ ∃ q, w' = w.drewN q := by
  rcases hown.2 with ⟨rfl, h0⟩ | ⟨g, cap, cur, rfl, hbg, hgh, hnc, hcm, hsz, htk⟩
  · have e0 : rs = [] := List.eq_nil_of_length_eq_zero h0
    subst e0
    have K := Any.slices_BinarySearch_int_empty lays25 none 0 x w
    change Calls Try.prog 25 _ _ _ at K
    refine K.mono ?_
    rintro e w' ⟨rfl, rfl⟩
    exact ⟨rfl, 0, rfl⟩
  · have kG : Blk w g cur 3 := hgh
    have K := Any.slices_BinarySearch_int lays25 g 0 rs.length cap rs x w (Nat.le_refl _) (by omega) (fun j hj => by
      rw [Nat.zero_add, kG.cell]
      have h : (flatI rs)[j]? = some (.int .i64 (rs.getD j 0)) := by
        unfold flatI
        rw [List.getElem?_map, List.getElem?_eq_getElem hj]
        simp [List.getD, List.getElem?_eq_getElem hj]
      rw [← htk, List.getElem?_take_of_lt (by omega)] at h
      simpa using h) (by rw [List.take_length]; exact hs.imp (fun h => by omega))
    rw [List.take_length] at K
    exact K
end Go.Proofs.Ytimcddknoanghaa
