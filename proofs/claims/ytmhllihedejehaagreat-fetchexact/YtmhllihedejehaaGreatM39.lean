/- The answer's Done. -/
import Derived.Test.YtmhllihedejehaaGreatM18
import Derived.Test.YtmhllihedejehaaGreatZTop
import Derived.Test.YtmhllihedejehaaGreatM17
import Derived.Test.YtmhllihedejehaaGreatFMem

namespace Go.Proofs.YtmhllihedejehaaGreat
open Go.RowKit
set_option linter.unusedVariables false
set_option linter.unusedSimpArgs false

/-- What the answer's Done gives. -/
def RDoneE (w : World) (wd root : Int) (L : List (Key × Int)) (o : Option Tr) (li : Option Addr) (ci : Nat) (e : Ending) (w' : World) : Prop :=
  Below w.heap.size w w' ∧ ((L ≠ [] ∧ e = .returned (.tuple #[.agg #[.int .i64 0, .slice none 0 0], .int .i64 26])) ∨ (L = [] ∧ rootP wd o ≠ root ∧ e = .returned (.tuple #[.agg #[.int .i64 0, .slice none 0 0], .int .i64 5])) ∨
    (L = [] ∧ rootP wd o = root ∧ e = .returned (.tuple #[.agg #[.int .i64 wd, .slice li (itemsO o).length ci], .int .i64 0])))

set_option maxRecDepth 8000 in
set_option maxHeartbeats 3200000 in
theorem rdone_any (gb base : Nat) (wd root : Int) (L : List (Key × Int)) (o : Option Tr) (bar : List Int) (vL vB : Value) (li : Option Addr) (ci : Nat) (w : World) (hw : okW wd) (hL : L.length ≤ 1000000) (hf : FineO o) (hc : (itemsO o).length ≤ ci) (hi : ItemsAt w li (itemsO o)) (H : RFet w base gb wd root L o bar vL vB li ci) :
    Calls Tryz.prog 18 #[.pointer (some ⟨gb, 0, none⟩)] w fun e w' => RDoneE w wd root L o li ci e w' := by
  have bA : Below w.heap.size w (w.alloc (.cells #[.int .i64 0, .slice none 0 0] 36)) := (Below.refl _ _).alloc (Nat.le_refl _) _
  have H1 := H.below bA
  have hi1 := hi.below bA
  have kz := Blk.new w #[.int .i64 0, .slice none 0 0] 36
  obtain ⟨sa, sc, rfl⟩ : ∃ sa sc, vL = .slice sa L.length sc := by
    rcases H.wl.2 with ⟨rfl, h0⟩ | ⟨g, cap, cur, rfl, _⟩
    · exact ⟨none, 0, by rw [h0]⟩
    · exact ⟨_, _, rfl⟩
  have c1 := (H1.k.cell 1).trans rfl
  have c2 := (H1.k.cell 2).trans rfl
  have c3 := (H1.k.cell 3).trans rfl
  have c4 := (H1.k.cell 4).trans rfl
  have zf := H1.k.lt
  have z0 := (kz.cell 0).trans rfl
  have z1 := (kz.cell 1).trans rfl
  have g0 := kz.frozen 0
  have g1 := kz.frozen 1
  have zk := kz.lt
  by_cases hne : L = []
  · subst hne
    have KR := rroot_any wd o li ci _ hw hf hc hi1
    go_enter Tryz.func18, Tryz.ntmps18
    go_wp2_with fail
    refine KR.mono ?_
    clear KR hi1 z0 z1 g0 g1 zk
    generalize w.alloc (.cells #[.int .i64 0, .slice none 0 0] 36) = w1 at *
    rintro e w2 ⟨rfl, b2⟩
    have H2 := H1.below b2
    have k2 := kz.below b2 kz.lt
    have B2 := bA.trans (b2.mono bA.size)
    clear c1 c2 c3 c4 zf H1 kz
    have c1 := (H2.k.cell 1).trans rfl
    have c3 := (H2.k.cell 3).trans rfl
    have c4 := (H2.k.cell 4).trans rfl
    have zf := H2.k.lt
    have z0 := (k2.cell 0).trans rfl
    have z1 := (k2.cell 1).trans rfl
    have g0 := k2.frozen 0
    have g1 := k2.frozen 1
    have zk := k2.lt
    by_cases hr : rootP wd o = root
    · have hb : (rootP wd o != root) = false := by simpa using hr
      have HR : Hid (rootP wd o = root) := hr
      clear hr
      go_wp2
      exact bodyPost_ret (v := .tuple #[.agg #[.int .i64 wd, .slice li (itemsO o).length ci], .int .i64 0]) (by simp [results, Tryz.results18, go_sem, z0, z1, g0, g1, zk]) rfl ⟨(B2.setCell (Nat.le_refl _) _).setCell (Nat.le_refl _) _, .inr (.inr ⟨rfl, HR.out, rfl⟩)⟩
    · have hb : (rootP wd o != root) = true := by simpa using hr
      have HR : Hid (rootP wd o ≠ root) := hr
      clear hr
      go_wp2
      exact bodyPost_ret (v := .tuple #[.agg #[.int .i64 0, .slice none 0 0], .int .i64 5]) (by simp [results, Tryz.results18, go_sem, z0, z1, g0, g1, zk]) rfl ⟨(B2.setCell (Nat.le_refl _) _).setCell (Nat.le_refl _) _, .inr (.inl ⟨rfl, HR.out, rfl⟩)⟩
  · have hpos : (L.length : Int) > 0 := by
      cases L with
      | nil => exact (hne rfl).elim
      | cons _ _ => simp
    have HN : Hid (L ≠ []) := hne
    clear hne
    go_enter Tryz.func18, Tryz.ntmps18
    go_wp2
    exact bodyPost_ret (v := .tuple #[.agg #[.int .i64 0, .slice none 0 0], .int .i64 26]) (by simp [results, Tryz.results18, go_sem, z0, z1, g0, g1, zk]) rfl ⟨bA, .inl ⟨HN.out, rfl⟩⟩
end Go.Proofs.YtmhllihedejehaaGreat

namespace Go.Proofs.YtmhllihedejehaaGreat
open Go.RowKit
set_option linter.unusedVariables false

theorem pick_any (c n : Int) (w : World) (hc : -9223372036854775808 ≤ c ∧ c ≤ 9223372036854775807) (hn : 1 ≤ n ∧ n ≤ 9223372036854775807) :
    Calls Tryz.prog 5 #[.int .i64 c, .int .i64 n] w fun e w' => (∃ r, e = .returned (.int .i64 r) ∧ 0 ≤ r ∧ r < n) ∧ w = w' := by
  by_cases h : c < 0
  · have hq := Int.emod_nonneg (-(c + 1)) (show n ≠ 0 by omega)
    have hq2 := Int.emod_lt_of_pos (-(c + 1)) (show 0 < n by omega)
    go_enter Tryz.func5, Tryz.ntmps5
    go_wp2
    go_ret
    have e : -((c + 1).tmod n) = -(c + 1) % n := by rw [← Int.neg_tmod, Int.tmod_eq_emod_of_nonneg (by omega)]
    rw [← e] at hq hq2
    exact ⟨⟨_, rfl, hq, hq2⟩, rfl⟩
  · have hq := Int.emod_nonneg c (show n ≠ 0 by omega)
    have hq2 := Int.emod_lt_of_pos c (show 0 < n by omega)
    go_enter Tryz.func5, Tryz.ntmps5
    go_wp2
    go_ret
    exact ⟨⟨_, rfl, hq, hq2⟩, rfl⟩
end Go.Proofs.YtmhllihedejehaaGreat

namespace Go.Proofs.YtmhllihedejehaaGreat
open Go.RowKit
set_option linter.unusedVariables false
set_option linter.unusedSimpArgs false

/-- A node, as a value. -/
structure Nd where
  k : Int
  key : Key
  val : Key
  pos : Int
  l : Int
  r : Int
def Nd.v (n : Nd) : Value := .agg #[.int .i64 n.k, .string (str n.key), .string (str n.val), .int .i64 n.pos, .int .u64 n.l, .int .u64 n.r]
/-- It is no greater than a node can be. -/
structure Nd.Ok (n : Nd) : Prop where
  hk : n.key.length ≤ maxLen
  hv : n.val.length ≤ maxLen
  hl : 0 ≤ n.l ∧ n.l ≤ 18446744073709551615
  hr : 0 ≤ n.r ∧ n.r ≤ 18446744073709551615
  hp : -9223372036854775808 ≤ n.pos ∧ n.pos ≤ 9223372036854775807

set_option maxRecDepth 8000 in
set_option maxHeartbeats 3200000 in
theorem swapped_any (n x : Nd) (fr a t : Int) (way : Key) (w : World) (hn : n.Ok) (hx : x.Ok) (ht : -9223372036854775808 ≤ t ∧ t ≤ 9223372036854775807) :
    Calls Tryz.prog 13 #[n.v, .agg #[.int .i64 fr, .int .i64 a, .int .i64 t, .int .i64 x.k, .string (str x.key), .string (str x.val), .int .i64 x.pos, .int .u64 x.l, .int .u64 x.r, .string (str way)]] w fun e w' => ∃ y : Nd, e = .returned y.v ∧ y.Ok ∧ Below w.heap.size w w' := by
  obtain ⟨k, key, val, pos, l, r⟩ := n
  obtain ⟨xk, xkey, xval, xpos, xl, xr⟩ := x
  simp only [Nd.v]
  have K := fun w' => pick_any t 14 w' ht (by omega)
  obtain ⟨W, hW⟩ : ∃ W, ((w.alloc (.cells #[.int .i64 k, .string (str key), .string (str val), .int .i64 pos, .int .u64 l, .int .u64 r] 28)).alloc (.cells #[.int .i64 fr, .int .i64 a, .int .i64 t, .int .i64 xk, .string (str xkey), .string (str xval), .int .i64 xpos, .int .u64 xl, .int .u64 xr, .string (str way)] 30)).alloc (.cells #[.int .i64 0, .string ⟨#[]⟩, .string ⟨#[]⟩, .int .i64 0, .int .u64 0, .int .u64 0] 28) = W := ⟨_, rfl⟩
  have bA : Below w.heap.size w W := by rw [← hW]; exact (((Below.refl _ _).alloc (Nat.le_refl _) _).alloc (by simp) _).alloc (by simp; omega) _
  have k0 : Blk W w.heap.size #[.int .i64 k, .string (str key), .string (str val), .int .i64 pos, .int .u64 l, .int .u64 r] 28 := by rw [← hW]; exact ((Blk.new w _ _).alloc _).alloc _
  have k1 : Blk W (w.heap.size + 1) #[.int .i64 fr, .int .i64 a, .int .i64 t, .int .i64 xk, .string (str xkey), .string (str xval), .int .i64 xpos, .int .u64 xl, .int .u64 xr, .string (str way)] 30 := by
    rw [← hW]
    have := (Blk.new (w.alloc (.cells #[.int .i64 k, .string (str key), .string (str val), .int .i64 pos, .int .u64 l, .int .u64 r] 28)) #[.int .i64 fr, .int .i64 a, .int .i64 t, .int .i64 xk, .string (str xkey), .string (str xval), .int .i64 xpos, .int .u64 xl, .int .u64 xr, .string (str way)] 30).alloc (.cells #[.int .i64 0, .string ⟨#[]⟩, .string ⟨#[]⟩, .int .i64 0, .int .u64 0, .int .u64 0] 28)
    rwa [World.size_alloc] at this
  have k2 : Blk W (w.heap.size + 1 + 1) #[.int .i64 0, .string ⟨#[]⟩, .string ⟨#[]⟩, .int .i64 0, .int .u64 0, .int .u64 0] 28 := by
    rw [← hW]
    have := Blk.new ((w.alloc (.cells #[.int .i64 k, .string (str key), .string (str val), .int .i64 pos, .int .u64 l, .int .u64 r] 28)).alloc (.cells #[.int .i64 fr, .int .i64 a, .int .i64 t, .int .i64 xk, .string (str xkey), .string (str xval), .int .i64 xpos, .int .u64 xl, .int .u64 xr, .string (str way)] 30)) #[.int .i64 0, .string ⟨#[]⟩, .string ⟨#[]⟩, .int .i64 0, .int .u64 0, .int .u64 0] 28
    simpa only [World.size_alloc] using this
  go_enter Tryz.func13, Tryz.ntmps13
  go_upto_region 1 with fail
  clear hW
  have c2 := (k1.cell 2).trans rfl
  have z1 := k1.lt
  go_wp2_with fail
  refine (K _).mono ?_
  rintro e w4 ⟨⟨p, rfl, hp0, hp1⟩, rfl⟩
  clear K c2
  have a0 := (k0.cell 0).trans rfl
  have a1 := (k0.cell 1).trans rfl
  have a2 := (k0.cell 2).trans rfl
  have a3 := (k0.cell 3).trans rfl
  have a4 := (k0.cell 4).trans rfl
  have a5 := (k0.cell 5).trans rfl
  have fa0 := k0.frozen 0
  have fa1 := k0.frozen 1
  have fa2 := k0.frozen 2
  have fa3 := k0.frozen 3
  have fa4 := k0.frozen 4
  have z0 := k0.lt
  have c3 := (k1.cell 3).trans rfl
  have c4 := (k1.cell 4).trans rfl
  have c5 := (k1.cell 5).trans rfl
  have c6 := (k1.cell 6).trans rfl
  have c7 := (k1.cell 7).trans rfl
  have c8 := (k1.cell 8).trans rfl
  have r0 := (k2.cell 0).trans rfl
  have r1 := (k2.cell 1).trans rfl
  have r2 := (k2.cell 2).trans rfl
  have r3 := (k2.cell 3).trans rfl
  have r4 := (k2.cell 4).trans rfl
  have r5 := (k2.cell 5).trans rfl
  have g0 := k2.frozen 0
  have g1 := k2.frozen 1
  have g2 := k2.frozen 2
  have g3 := k2.frozen 3
  have g4 := k2.frozen 4
  have g5 := k2.frozen 5
  have z2 := k2.lt
  by_cases h0 : p = 0
  · subst h0
    go_wp2
    exact bodyPost_ret (v := .agg #[.int .i64 k, .string (str key), .string (str xval), .int .i64 pos, .int .u64 l, .int .u64 r]) (by simp [results, Tryz.results13, go_sem, r0, r1, r2, r3, r4, r5, g0, g1, g2, g3, g4, g5, z0, z2]) rfl ⟨⟨k, key, xval, pos, l, r⟩, rfl, ⟨hn.hk, hx.hv, hn.hl, hn.hr, hn.hp⟩, (((((((bA.setCell (Nat.le_refl _) _)).setCell (by show w.heap.size ≤ w.heap.size + 1 + 1; omega) _).setCell (by show w.heap.size ≤ w.heap.size + 1 + 1; omega) _).setCell (by show w.heap.size ≤ w.heap.size + 1 + 1; omega) _).setCell (by show w.heap.size ≤ w.heap.size + 1 + 1; omega) _).setCell (by show w.heap.size ≤ w.heap.size + 1 + 1; omega) _).setCell (by show w.heap.size ≤ w.heap.size + 1 + 1; omega) _⟩
  · have h0' : (p == 0) = false := by simpa using h0
    by_cases h1 : p = 1
    · subst h1
      go_wp2
      exact bodyPost_ret (v := .agg #[.int .i64 k, .string (str xkey), .string (str val), .int .i64 pos, .int .u64 l, .int .u64 r]) (by simp [results, Tryz.results13, go_sem, r0, r1, r2, r3, r4, r5, g0, g1, g2, g3, g4, g5, z0, z2]) rfl ⟨⟨k, xkey, val, pos, l, r⟩, rfl, ⟨hx.hk, hn.hv, hn.hl, hn.hr, hn.hp⟩, (((((((bA.setCell (Nat.le_refl _) _)).setCell (by show w.heap.size ≤ w.heap.size + 1 + 1; omega) _).setCell (by show w.heap.size ≤ w.heap.size + 1 + 1; omega) _).setCell (by show w.heap.size ≤ w.heap.size + 1 + 1; omega) _).setCell (by show w.heap.size ≤ w.heap.size + 1 + 1; omega) _).setCell (by show w.heap.size ≤ w.heap.size + 1 + 1; omega) _).setCell (by show w.heap.size ≤ w.heap.size + 1 + 1; omega) _⟩
    · have h1' : (p == 1) = false := by simpa using h1
      by_cases h2 : p = 2
      · subst h2
        go_wp2
        exact bodyPost_ret (v := .agg #[.int .i64 k, .string (str key), .string (str val), .int .i64 xpos, .int .u64 l, .int .u64 r]) (by simp [results, Tryz.results13, go_sem, r0, r1, r2, r3, r4, r5, g0, g1, g2, g3, g4, g5, z0, z2]) rfl ⟨⟨k, key, val, xpos, l, r⟩, rfl, ⟨hn.hk, hn.hv, hn.hl, hn.hr, hx.hp⟩, (((((((bA.setCell (Nat.le_refl _) _)).setCell (by show w.heap.size ≤ w.heap.size + 1 + 1; omega) _).setCell (by show w.heap.size ≤ w.heap.size + 1 + 1; omega) _).setCell (by show w.heap.size ≤ w.heap.size + 1 + 1; omega) _).setCell (by show w.heap.size ≤ w.heap.size + 1 + 1; omega) _).setCell (by show w.heap.size ≤ w.heap.size + 1 + 1; omega) _).setCell (by show w.heap.size ≤ w.heap.size + 1 + 1; omega) _⟩
      · have h2' : (p == 2) = false := by simpa using h2
        by_cases h3 : p = 3
        · subst h3
          go_wp2
          exact bodyPost_ret (v := .agg #[.int .i64 k, .string (str key), .string (str val), .int .i64 pos, .int .u64 xl, .int .u64 r]) (by simp [results, Tryz.results13, go_sem, r0, r1, r2, r3, r4, r5, g0, g1, g2, g3, g4, g5, z0, z2]) rfl ⟨⟨k, key, val, pos, xl, r⟩, rfl, ⟨hn.hk, hn.hv, hx.hl, hn.hr, hn.hp⟩, (((((((bA.setCell (Nat.le_refl _) _)).setCell (by show w.heap.size ≤ w.heap.size + 1 + 1; omega) _).setCell (by show w.heap.size ≤ w.heap.size + 1 + 1; omega) _).setCell (by show w.heap.size ≤ w.heap.size + 1 + 1; omega) _).setCell (by show w.heap.size ≤ w.heap.size + 1 + 1; omega) _).setCell (by show w.heap.size ≤ w.heap.size + 1 + 1; omega) _).setCell (by show w.heap.size ≤ w.heap.size + 1 + 1; omega) _⟩
        · have h3' : (p == 3) = false := by simpa using h3
          by_cases h4 : p = 4
          · subst h4
            go_wp2
            exact bodyPost_ret (v := .agg #[.int .i64 xk, .string (str key), .string (str val), .int .i64 pos, .int .u64 l, .int .u64 r]) (by simp [results, Tryz.results13, go_sem, r0, r1, r2, r3, r4, r5, g0, g1, g2, g3, g4, g5, z0, z2]) rfl ⟨⟨xk, key, val, pos, l, r⟩, rfl, ⟨hn.hk, hn.hv, hn.hl, hn.hr, hn.hp⟩, (((((((bA.setCell (Nat.le_refl _) _)).setCell (by show w.heap.size ≤ w.heap.size + 1 + 1; omega) _).setCell (by show w.heap.size ≤ w.heap.size + 1 + 1; omega) _).setCell (by show w.heap.size ≤ w.heap.size + 1 + 1; omega) _).setCell (by show w.heap.size ≤ w.heap.size + 1 + 1; omega) _).setCell (by show w.heap.size ≤ w.heap.size + 1 + 1; omega) _).setCell (by show w.heap.size ≤ w.heap.size + 1 + 1; omega) _⟩
          · have h4' : (p == 4) = false := by simpa using h4
            by_cases h5 : p = 5
            · subst h5
              go_wp2
              exact bodyPost_ret (v := .agg #[.int .i64 xk, .string (str xkey), .string (str xval), .int .i64 xpos, .int .u64 xl, .int .u64 xr]) (by simp [results, Tryz.results13, go_sem, r0, r1, r2, r3, r4, r5, g0, g1, g2, g3, g4, g5, z0, z2]) rfl ⟨⟨xk, xkey, xval, xpos, xl, xr⟩, rfl, ⟨hx.hk, hx.hv, hx.hl, hx.hr, hx.hp⟩, ((((((bA).setCell (by show w.heap.size ≤ w.heap.size + 1 + 1; omega) _).setCell (by show w.heap.size ≤ w.heap.size + 1 + 1; omega) _).setCell (by show w.heap.size ≤ w.heap.size + 1 + 1; omega) _).setCell (by show w.heap.size ≤ w.heap.size + 1 + 1; omega) _).setCell (by show w.heap.size ≤ w.heap.size + 1 + 1; omega) _).setCell (by show w.heap.size ≤ w.heap.size + 1 + 1; omega) _⟩
            · have h5' : (p == 5) = false := by simpa using h5
              clear h0 h1 h2 h3 h4 h5
              go_wp2
              exact bodyPost_ret (v := .agg #[.int .i64 k, .string (str key), .string (str val), .int .i64 pos, .int .u64 l, .int .u64 r]) (by simp [results, Tryz.results13, go_sem, r0, r1, r2, r3, r4, r5, g0, g1, g2, g3, g4, g5, z0, z2]) rfl ⟨⟨k, key, val, pos, l, r⟩, rfl, ⟨hn.hk, hn.hv, hn.hl, hn.hr, hn.hp⟩, ((((((bA).setCell (by show w.heap.size ≤ w.heap.size + 1 + 1; omega) _).setCell (by show w.heap.size ≤ w.heap.size + 1 + 1; omega) _).setCell (by show w.heap.size ≤ w.heap.size + 1 + 1; omega) _).setCell (by show w.heap.size ≤ w.heap.size + 1 + 1; omega) _).setCell (by show w.heap.size ≤ w.heap.size + 1 + 1; omega) _).setCell (by show w.heap.size ≤ w.heap.size + 1 + 1; omega) _⟩
end Go.Proofs.YtmhllihedejehaaGreat
