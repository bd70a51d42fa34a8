/- Prove under way: what is in memory. -/
import Derived.Test.YtfjkgglflmakhaaDoorM22
import Derived.Test.YtfjkgglflmakhaaDoorM09
import Derived.Test.YtfjkgglflmakhaaDoorTLate
import Derived.RangeFuncBox
import Derived.Deep.AppendLies
import Derived.Deep.RegionHeld3
namespace Go.Proofs.YtfjkgglflmakhaaDoor
open Go.RowKit
set_option linter.unusedVariables false
set_option linter.unusedSimpArgs false

theorem infoTurn : (Tryd.prog.info? 83).map (fun i => (i.zero, i.size, i.bytes)) = some (some (.agg #[.int .i64 0, .int .u64 0]), 2, 16) := by kernel_rfl

structure PrvAt (w : World) (P : Nat) (done : List (Int × Int)) (sv : Value) (W : World) : Prop where
  below : Below w.heap.size w W
  hP : w.heap.size + 2 = P
  res : Blk W (w.heap.size + 1) #[.slice none 0 0, .bool false, .string ⟨#[]⟩, .string ⟨#[]⟩] 47
  p : Blk W P #[sv, .bool false, .string ⟨#[]⟩, .string ⟨#[]⟩] 47
  row : W.ownsRow (P + 1) 83 2 sv done.length (flatT done)

theorem owns_keep {w w' : World} {base : Nat} {e : TypeId} {size : Nat} {v : Value} {n : Nat} {xs : List Value} (h : w.ownsRow base e size v n xs) (hb : Below w.heap.size w w') : w'.ownsRow base e size v n xs := by
  obtain ⟨h1, h2⟩ := h
  refine ⟨h1, ?_⟩
  rcases h2 with h2 | ⟨g, cap, cur, e1, h3, h4, h5⟩
  · exact .inl h2
  · exact .inr ⟨g, cap, cur, e1, h3, (hb.block g (Array.getElem?_eq_some_iff.1 h4).1).trans h4, h5⟩
theorem PrvAt.next {w : World} {P : Nat} {done : List (Int × Int)} {sv : Value} {W W' : World} (h : PrvAt w P done sv W) (hb : Below W.heap.size W W') : PrvAt w P done sv W' :=
  ⟨h.below.trans (hb.mono h.below.size), h.hP, h.res.below hb h.res.lt, h.p.below hb h.p.lt, owns_keep h.row hb⟩

/-- What the region's loads find. -/
def LastP (P nb cb : Nat) (sv : Value) (pl d : Int) (w' : World) : Prop := w'.cell? ⟨P, 0, none⟩ = some sv ∧ w'.cell? ⟨nb, 3, none⟩ = some (.int .i64 pl) ∧ w'.cell? ⟨cb, 0, none⟩ = some (.int .u64 d)

theorem PrvAt.lastP {w : World} {P nb cb : Nat} {done : List (Int × Int)} {sv : Value} {pl d : Int} {W : World} (h : PrvAt w P done sv W) (h1 : w.cell? ⟨nb, 3, none⟩ = some (.int .i64 pl)) (z1 : nb < w.heap.size) (h2 : w.cell? ⟨cb, 0, none⟩ = some (.int .u64 d)) (z2 : cb < w.heap.size) : LastP P nb cb sv pl d W :=
  ⟨(h.p.cell 0).trans rfl, (h.below.cell (p := ⟨nb, 3, none⟩) z1).trans h1, (h.below.cell (p := ⟨cb, 0, none⟩) z2).trans h2⟩

theorem PrvAt.grow {w : World} {P nb cb : Nat} {done : List (Int × Int)} {sv : Value} {pl d : Int} {W W4 : World} {g cg : Nat} {o : Obj} (h : PrvAt w P done sv W) (h1 : w.cell? ⟨nb, 3, none⟩ = some (.int .i64 pl)) (z1 : nb < w.heap.size) (h2 : w.cell? ⟨cb, 0, none⟩ = some (.int .u64 d)) (z2 : cb < w.heap.size)
    (hown : W4.ownsRow (P + 1) 83 2 (.slice (some ⟨g, 0, none⟩) (done.length + 1) cg) (done.length + 1) (flatT done ++ [.int .i64 pl, .int .u64 d])) (hgrow : (W.alloc o).grownBy W4 sv.ownBlock) :
    LastP P nb cb sv pl d W4 ∧ Blk W4 P #[sv, .bool false, .string ⟨#[]⟩, .string ⟨#[]⟩] 47 ∧ PrvAt w P (done ++ [(pl, d)]) (.slice (some ⟨g, 0, none⟩) (done.length + 1) cg) (W4.setCell ⟨P, 0, none⟩ (.slice (some ⟨g, 0, none⟩) (done.length + 1) cg)) := by
  have hP := h.hP
  have n1 : sv.ownBlock ≠ some P := fun e => by have := (h.row.lt P e).1; omega
  have n2 : sv.ownBlock ≠ some (w.heap.size + 1) := fun e => by have := (h.row.lt _ e).1; omega
  have p4 := (h.p.alloc o).grown hgrow n1
  have r4 := (h.res.alloc o).grown hgrow n2
  have b4 : Below w.heap.size w W4 := (h.below.alloc h.below.size o).grown hgrow (by have := h.below.size; simp; omega) (fun k e => by have := (h.row.lt k e).1; omega)
  have gne : g ≠ P := by have := (hown.lt g rfl).1; omega
  refine ⟨⟨(p4.cell 0).trans rfl, (b4.cell (p := ⟨nb, 3, none⟩) z1).trans h1, (b4.cell (p := ⟨cb, 0, none⟩) z2).trans h2⟩, p4, b4.setCell (p := ⟨P, 0, none⟩) (by show _ ≤ P; omega) _, hP, r4.setOther ⟨P, 0, none⟩ (by show _ ≠ P; omega) _, p4.set 0 _, ?_⟩
  rw [List.length_append, flatT_snoc]
  exact hown.kept (grownBy_setCell' W4 P _) (.inr (by simp only [Value.ownBlock]; intro e; injection e with e; exact gne e))
theorem TurnsAt.set {w : World} {la : Option Addr} {l : List (Int × Int)} {c : Nat} (h : TurnsAt w la l) (hne : l ≠ [] → ∀ b off, la = some ⟨b, off, none⟩ → c ≠ b) (i : Nat) (u : Value) : TurnsAt (w.setCell ⟨c, i, none⟩ u) la l := by
  by_cases h0 : l = []
  · exact .inl h0
  · rcases h with h | ⟨b, off, e, hl, hc⟩
    · exact .inl h
    · have hn := hne h0 b off e
      refine .inr ⟨b, off, e, by rw [size_setCell]; exact hl, fun j x hx => ?_⟩
      obtain ⟨h1, h2⟩ := hc j x hx
      exact ⟨by rw [cell_off _ _ _ hn]; exact h1, by rw [cell_off _ _ _ hn]; exact h2⟩
theorem PrvAt.rowAt {w : World} {P : Nat} {done : List (Int × Int)} {la : Option Addr} {n cap : Nat} {W : World} (h : PrvAt w P done (.slice la n cap) W) : done ≠ [] → ∀ b off, la = some ⟨b, off, none⟩ → P + 1 ≤ b := fun hd b off e => by
  rcases h.row.2 with ⟨_, h0⟩ | ⟨g, cg, cur, e0, hg1, _⟩
  · exact absurd (List.eq_nil_of_length_eq_zero h0) hd
  · injection e0 with e1 _ _
    rw [e] at e1
    injection e1 with e1
    injection e1 with e1 _
    omega
theorem cells_pr (w : World) (x y : Value) (ty : TypeId) (H : Nat) (hH : w.heap.size = H) : ∀ j u, ([x, y])[j]? = some u → (w.alloc (.cells #[x, y] ty)).cell? ((⟨H, 0, none⟩ : Addr).add j) = some u := by
  subst hH
  intro j u hj
  have hb := Blk.new w #[x, y] ty
  have ha : (⟨w.heap.size, 0, none⟩ : Addr).add j = ⟨w.heap.size, j, none⟩ := by unfold Addr.add; split <;> simp_all
  rw [ha, hb.cell]
  simpa using hj
theorem prv_start (w : World) (wd : Int) (b : Nat) : PrvAt w (w.heap.size + 2) [] (.slice none 0 0) (((w.alloc (.cells #[.int .i64 wd, .pointer (some ⟨b, 0, none⟩)] 27)).alloc (.cells #[.slice none 0 0, .bool false, .string ⟨#[]⟩, .string ⟨#[]⟩] 47)).alloc (.cells #[.slice none 0 0, .bool false, .string ⟨#[]⟩, .string ⟨#[]⟩] 47)) := by
  have k1 := (Blk.new (w.alloc (.cells #[.int .i64 wd, .pointer (some ⟨b, 0, none⟩)] 27)) #[.slice none 0 0, .bool false, .string ⟨#[]⟩, .string ⟨#[]⟩] 47).alloc (.cells #[.slice none 0 0, .bool false, .string ⟨#[]⟩, .string ⟨#[]⟩] 47)
  have k2 := Blk.new ((w.alloc (.cells #[.int .i64 wd, .pointer (some ⟨b, 0, none⟩)] 27)).alloc (.cells #[.slice none 0 0, .bool false, .string ⟨#[]⟩, .string ⟨#[]⟩] 47)) #[.slice none 0 0, .bool false, .string ⟨#[]⟩, .string ⟨#[]⟩] 47
  simp only [World.size_alloc] at k1 k2
  exact ⟨(((Below.refl _ _).alloc (Nat.le_refl _) _).alloc (by simp) _).alloc (by simp; omega) _, rfl, k1, k2, World.ownsRow_nil _ _ _ _⟩
end Go.Proofs.YtfjkgglflmakhaaDoor
