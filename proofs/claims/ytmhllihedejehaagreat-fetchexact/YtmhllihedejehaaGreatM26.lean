/- The answer's fetch: its state; what the program's calls leave of it, and what its own leave of the program's. -/
import Derived.Test.YtmhllihedejehaaGreatM18
import Derived.Test.YtmhllihedejehaaGreatFDone
import Derived.Test.YtmhllihedejehaaGreatM05
import Derived.Laws.AppendOwn
import Derived.Laws.BytesArg
import Derived.OwnWalk
import Derived.RangeFuncNested
import Derived.RangeFuncBound
import Derived.RangeFuncCalls
import Derived.RangeFuncLeaves
import Derived.Shelf.Abstract
import Derived.Shelf.RegionOpen
import Derived.WalkKit
import Derived.OwnWalkIn
import Derived.TacticsInMore
import Derived.LoopNIn
import Derived.LoopIn
import Derived.Test.YtmhllihedejehaaGreatFMem

namespace Go.Proofs.YtmhllihedejehaaGreat
open Go.RowKit Go.Maps
set_option linter.unusedVariables false
set_option linter.unusedSimpArgs false

theorem ItemsAt.kt {w w' : World} {la : Option Addr} {l : List (Key × Key)} (h : ItemsAt w la l) (K : Kt w w') : ItemsAt w' la l := by
  rcases h with h | ⟨b, off, e, hl, hc⟩
  · exact .inl h
  · exact .inr ⟨b, off, e, Nat.lt_of_lt_of_le hl K.size, fun i x hx => ⟨K.str _ _ _ (hc i x hx).1, K.str _ _ _ (hc i x hx).2⟩⟩
/-- The answer's fetch: this is wanted, that was kept, those are barred, rising. -/
def RSt (w : World) (gb : Nat) (wd root : Int) (L : List (Key × Int)) (o : Option Tr) (sb : List Int) : Prop :=
  ∃ base vL vB li ci, RFet w base gb wd root L o sb vL vB li ci ∧ ItemsAt w li (itemsO o) ∧ (itemsO o).length ≤ ci
theorem RSt.below {w w' : World} {gb : Nat} {wd root : Int} {L : List (Key × Int)} {o : Option Tr} {sb : List Int} (h : RSt w gb wd root L o sb) (hb : Below w.heap.size w w') : RSt w' gb wd root L o sb := by
  obtain ⟨base, vL, vB, li, ci, H, hi, hc⟩ := h
  exact ⟨base, vL, vB, li, ci, H.below hb, hi.below hb, hc⟩
theorem RSt.kt {w w' : World} {gb : Nat} {wd root : Int} {L : List (Key × Int)} {o : Option Tr} {sb : List Int} (h : RSt w gb wd root L o sb) (K : Kt w w') : RSt w' gb wd root L o sb := by
  obtain ⟨base, vL, vB, li, ci, H, hi, hc⟩ := h
  exact ⟨base, vL, vB, li, ci, H.keep (fun k cs t q ht => K.same k cs t q (by rcases ht with e | e | e <;> rw [e] <;> decide) (by rcases ht with e | e | e <;> rw [e] <;> decide)), hi.kt K, hc⟩
theorem RSt.blk {w : World} {gb : Nat} {wd root : Int} {L : List (Key × Int)} {o : Option Tr} {sb : List Int} (h : RSt w gb wd root L o sb) : ∃ cs, Blk w gb cs 55 := by
  obtain ⟨base, vL, vB, li, ci, H, hi, hc⟩ := h
  exact ⟨_, H.k⟩
/-- What the answer's Give leaves. -/
def RGave (w : World) (gb : Nat) (wd root : Int) (L : List (Key × Int)) (o : Option Tr) (sb : List Int) (code : Int) (e : Ending) (w' : World) : Prop :=
  e = .returned (.int .i64 code) ∧ RSt w' gb wd root L o sb ∧ Only gb w w'

section
variable {base : Nat} {w w' : World} {fb : Nat} {wd root : Int} {L : List (Key × Int)} {o : Option Tr} {bar : List Int} {mb : Nat}
theorem NodeAt.oth {gb : Nat} {cs : Array Value} (kn : Blk w gb cs 55) (O : Only gb w w') : ∀ {t : Tr} {b : Nat}, NodeAt wd w b t → NodeAt wd w' b t
  | .leaf k v, b, h => (O.same b (Blk.lt h) (fun e => by subst e; have := kn.symm.trans h; simp at this)).trans h
  | .fork p l r, b, h => by
    obtain ⟨bl, br, h, h1, h2⟩ := h
    exact ⟨bl, br, (O.same b (Blk.lt h) (fun e => by subst e; have := kn.symm.trans h; simp at this)).trans h, NodeAt.oth kn O h1, NodeAt.oth kn O h2⟩
theorem FetAt.oth {pt : PT} {q : Option Addr} {gb : Nat} {cs : Array Value} (h : FetAt base w fb wd root pt o bar q mb) (kn : Blk w gb cs 55) (O : Only gb w w') : FetAt base w' fb wd root pt o bar q mb := by
  have hk : ∀ k cs' t, Blk w k cs' t → t ≠ 55 → Blk w' k cs' t := fun k cs' t hb ht => (O.same k hb.lt (fun e => by subst e; have := kn.symm.trans hb; simp at this; exact ht this.2.symm)).trans hb
  refine ⟨hk _ _ _ h.k (by decide), h.pl.keep (fun k cs' q => hk _ _ _ q (by decide)), h.nd, ?_, h.gd, map_same h.m (O.same mb h.mlt (fun e => ?_)), h.lo, h.lp⟩
  · have ht := h.tr
    cases o with
    | none => exact ht
    | some t => obtain ⟨b, e, hn⟩ := ht; exact ⟨b, e, hn.oth kn O⟩
  · subst e
    obtain ⟨es, clock, hb, _⟩ := h.m
    cases kn.symm.trans hb
theorem St.oth {gb : Nat} {cs : Array Value} (h : St base w fb wd root mb L o bar) (kn : Blk w gb cs 55) (O : Only gb w w') : St base w' fb wd root mb L o bar := by
  obtain ⟨pt, q, H, e⟩ := h
  exact ⟨pt, q, H.oth kn O, e⟩
end

section
variable {gb : Nat} {wd root : Int} {L : List (Key × Int)} {o : Option Tr} {sb : List Int}
theorem rgives_barred (x k pos l r : Int) (way key val : Key) (w : World) (hb : sb.length ≤ 1000000) (H : RSt w gb wd root L o sb) (hx : x ∈ sb) :
    Calls Tryz.prog 15 #[.pointer (some ⟨gb, 0, none⟩), .int .i64 x, .string (str way), .agg #[.int .i64 k, .string (str key), .string (str val), .int .i64 pos, .int .u64 l, .int .u64 r]] w fun e w' => RGave w gb wd root L o sb 17 e w' := by
  have H0 := H
  obtain ⟨base, vL, vB, li, ci, H, hi, hc⟩ := H
  exact (rgive_barred x k pos l r way key val w hb H hx).mono fun e w' ⟨h1, h2⟩ => ⟨h1, H0.below h2, Only.of_below h2⟩
end
end Go.Proofs.YtmhllihedejehaaGreat

namespace Go.Proofs.YtmhllihedejehaaGreat
open Go.RowKit
set_option linter.unusedVariables false
set_option linter.unusedSimpArgs false

theorem infoByteF : (Tryz.prog.info? 5).map (fun i => (i.zero, i.size, i.bytes)) = some (some (.int .u8 0), 1, 1) := by kernel_rfl
def bcellsF (l : Key) : List Value := l.map fun b => Value.int .u8 b.toNat
/-- The slice v holds these bytes, in a row from base on. -/
abbrev WayAt (w : World) (base : Nat) (v : Value) (way : Key) : Prop := w.ownsRow base 5 1 v way.length (bcellsF way)
theorem conv_way {w : World} {base : Nat} {v : Value} {out : Key} (h : WayAt w base v out) : (convert 131 9 v).run Tryz.prog w = .ok (.string (str out)) w := by
  rcases h.2 with ⟨rfl, h0⟩ | ⟨g, cap, cur, rfl, _⟩
  · have e : out = [] := List.eq_nil_of_length_eq_zero h0
    subst e
    exact run_convert_bytes_nil (P := Tryz.prog) w 131 5 Tryz.underlying131 Tryz.underlying5 0 0 9 Tryz.underlying9
  · have hc := run_convert_bytes_arg (P := Tryz.prog) w 131 5 Tryz.underlying131 Tryz.underlying5 g 0 out.length cap (out.map fun b => (b.toNat : Int)) (by simp) (fun i hi => by
      have hx := h.cells (g := g) rfl i (Value.int .u8 (out[i].toNat : Int)) (by simp [bcellsF, hi])
      rw [show (⟨g, 0, none⟩ : Addr).add i = ⟨g, 0 + i, none⟩ by unfold Addr.add; split <;> simp_all] at hx
      rw [hx]
      simp [List.getD, hi]) 9 Tryz.underlying9
    have e : strOfNums (out.map fun b => (b.toNat : Int)) = str out := by
      unfold strOfNums
      rw [List.map_map, List.map_congr_left (g := id) (fun b _ => by simp), List.map_id]
      rfl
    rw [hc, e]

/-- Where the longer row lies. -/
def Grew (w : World) (v v' : Value) (n : Nat) (w' : World) : Prop :=
  (∃ g cap, v = .slice (some ⟨g, 0, none⟩) n cap ∧ v' = .slice (some ⟨g, 0, none⟩) (n + 1) cap ∧ w.grownBy w' (some g)) ∨ (∃ cap, v' = .slice (some ⟨w.heap.size, 0, none⟩) (n + 1) cap ∧ w.grownBy w' none)
theorem app_byte (w : World) (base : Nat) (v : Value) (way : Key) (c : UInt8) (tb : Nat) (h : WayAt w base v way) (hc : w.cell? ⟨tb, 0, none⟩ = some (.int .u8 c.toNat)) (hn : way.length ≤ 100000000) (hb : base ≤ w.heap.size) :
    ∃ v' w', (Builtin.append_ #[131, 131] 131 #[v, .slice (some ⟨tb, 0, none⟩) 1 1]).run Tryz.prog w = .ok v' w' ∧ WayAt w' base v' (way ++ [c]) ∧ Grew w v v' way.length w' := by
  obtain ⟨i, hi, hz, hs, hby⟩ := info_parts infoByteF
  have hnews : ∀ j u, ([Value.int .u8 c.toNat] : List Value)[j]? = some u → w.cell? ((⟨tb, 0, none⟩ : Addr).add j) = some u := by
    intro j u hj
    cases j with
    | zero => simp at hj; subst hj; simpa [Addr.add] using hc
    | succ j => simp at hj
  have hl : ([Value.int .u8 c.toNat] : List Value).length = 1 * i.size := by rw [hs]; rfl
  have h1 : ∀ u ∈ ([Value.int .u8 c.toNat] : List Value), u.oneCell' = true := by intro u hu; simp at hu; subst hu; rfl
  have hlen : (bcellsF (way ++ [c])).length = (way ++ [c]).length * 1 := by simp [bcellsF]
  have happ : bcellsF (way ++ [c]) = bcellsF way ++ [Value.int .u8 c.toNat] := by simp [bcellsF]
  have hsz : (way ++ [c]).length = way.length + 1 := by simp
  rcases h.2 with ⟨rfl, h0⟩ | ⟨g, cap, cur, rfl, hbg, hg, hnc, hcm, hcs, htake⟩
  · have e : way = [] := List.eq_nil_of_length_eq_zero h0
    subst e
    have hr := run_append_nil (P := Tryz.prog) w 131 131 5 i _ Tryz.underlying131 hi hz ⟨tb, 0, none⟩ 1 1 _ hl hnews (by omega) (by omega) (by rw [hby]; omega)
    refine ⟨_, _, hr, ⟨hlen, .inr ⟨w.heap.size, grownCap w 1 0 5, _, rfl, hb, heap_alloc_new w.drew _, by rw [hsz]; exact grownCap_ge w 1 0 _, grownCap_le_maxLen w 1 0 _ (by unfold maxLen; omega), ?_, ?_⟩⟩, .inr ⟨_, rfl, ⟨rfl, rfl, rfl, by simp, fun k hk _ => heap_alloc_old w.drew _ hk⟩⟩⟩
    · have hge := grownCap_ge w 1 0 5
      simp only [Array.size_append, List.size_toArray, List.length_singleton, size_zeroCells, Value.cells]
      omega
    · simp [bcellsF]
  · by_cases hroom : way.length + 1 ≤ cap
    · have hfit : way.length * i.size + ([Value.int .u8 c.toNat] : List Value).length ≤ cur.size := by rw [hs, hcs]; simp; omega
      have hr := run_append_room (P := Tryz.prog) w 131 131 5 i Tryz.underlying131 hi g way.length cap cur hg ⟨tb, 0, none⟩ 1 1 _ hl hnews h1 hroom hfit
      refine ⟨_, _, hr, ⟨hlen, .inr ⟨g, cap, _, by rw [hsz], hbg, setRow_heap w g cur _ _ _ hg, by rw [hsz]; exact hroom, hcm, ?_, ?_⟩⟩, .inl ⟨g, cap, rfl, rfl, ⟨rfl, rfl, rfl, by simp, fun k _ hk => setRow_other w g k _ (fun e => hk (by rw [e]))⟩⟩⟩
      · rw [hs] at hfit ⊢
        simp only [List.size_toArray, List.length_append, List.length_take, List.length_drop, Array.length_toList, List.length_singleton] at hfit ⊢
        omega
      · rw [hs, Nat.mul_one, Nat.mul_one, hsz, happ]
        rw [Nat.mul_one] at htake
        rw [htake]
        have e1 : way.length + 1 = (bcellsF way ++ [Value.int .u8 c.toNat]).length := by simp [bcellsF]
        rw [e1]
        exact List.take_left
    · have holds : ∀ j u, (bcellsF way)[j]? = some u → w.cell? ((⟨g, 0, none⟩ : Addr).add j) = some u := h.cells (g := g) rfl
      have hr := run_append_grow (P := Tryz.prog) w 131 131 5 i _ Tryz.underlying131 hi hz ⟨g, 0, none⟩ way.length cap (bcellsF way) (by rw [hs]; simp [bcellsF]) holds ⟨tb, 0, none⟩ 1 1 _ hl hnews (by omega) (by omega) (growslice_fits (by omega) (by rw [hby]; omega))
      refine ⟨_, _, hr, ⟨hlen, .inr ⟨w.heap.size, _, _, by rw [hsz], hb, heap_alloc_new w.drew _, by rw [hsz]; exact grownCap_ge w _ _ _, grownCap_le_maxLen w _ _ _ (by unfold maxLen; omega), ?_, ?_⟩⟩, .inr ⟨_, rfl, ⟨rfl, rfl, rfl, by simp, fun k hk _ => heap_alloc_old w.drew _ hk⟩⟩⟩
      · have hge := grownCap_ge w (way.length + 1) cap 5
        simp only [Array.size_append, List.size_toArray, List.length_singleton, size_zeroCells, Value.cells, bcellsF, List.length_map]
        omega
      · rw [Nat.mul_one, hsz, happ]
        simp only [Array.toList_append, List.append_assoc]
        rw [← List.append_assoc]
        have e1 : way.length + 1 = (bcellsF way ++ [Value.int .u8 c.toNat]).length := by simp [bcellsF]
        rw [e1]
        exact List.take_left
end Go.Proofs.YtmhllihedejehaaGreat

namespace Go.Proofs.YtmhllihedejehaaGreat
open Go.RowKit Go.Shelf
attribute [local go_sem] Oper.semAt_some
set_option linter.unusedVariables false
set_option linter.unusedSimpArgs false

/-- What the places' walk itself does: it makes memory, and writes rows of bytes. -/
structure Gn (base : Nat) (A B : World) : Prop where
  below : Below base A B
  same : ∀ (k : Nat) (o : Obj), A.heap[k]? = some o → (∀ cs fz, o ≠ .cells cs 5 fz) → B.heap[k]? = some o
theorem Gn.trans {base : Nat} {A B C : World} (h : Gn base A B) (g : Gn base B C) : Gn base A C := ⟨h.below.trans g.below, fun k o h0 hn => g.same k o (h.same k o h0 hn) hn⟩
theorem Gn.alloc {base : Nat} {A : World} (hb : base ≤ A.heap.size) (o : Obj) : Gn base A (A.alloc o) := ⟨(Below.refl _ _).alloc hb o, fun k o' h _ => (Below.heap_alloc _ _ _ (Array.getElem?_eq_some_iff.1 h).1).trans h⟩
theorem Gn.grew {base n : Nat} {w w' : World} {v v' : Value} {way : Key} (hb : base ≤ w.heap.size) (h : WayAt w base v way) (hg : Grew w v v' n w') : Gn base w w' := by
  rcases hg with ⟨g, cap, e1, _, hg⟩ | ⟨cap, _, hg⟩
  · rcases h.2 with ⟨e, _⟩ | ⟨g', cap', cur, e, hbg, hcur, _⟩
    · rw [e1] at e; cases e
    · rw [e1] at e
      have e2 : g = g' := by injection e with e; injection e with e; injection e
      subst e2
      refine ⟨⟨hg.os, hg.tape, hg.output, hg.size, fun k hk => hg.block k (by omega) (fun e => by injection e with e; omega)⟩, fun k o ho hn => (hg.block k (Array.getElem?_eq_some_iff.1 ho).1 (fun e => ?_)).trans ho⟩
      injection e with e
      subst e
      rw [hcur] at ho
      injection ho with ho
      exact hn _ _ ho.symm
  · exact ⟨⟨hg.os, hg.tape, hg.output, hg.size, fun k hk => hg.block k (by omega) (fun e => by cases e)⟩, fun k o ho _ => (hg.block k (Array.getElem?_eq_some_iff.1 ho).1 (fun e => by cases e)).trans ho⟩
/-- What a round keeps for it: rows of bytes, and places. -/
structure Yk (W W' : World) : Prop where
  size : W.heap.size ≤ W'.heap.size
  same : ∀ (k : Nat) (cs : Array Value) (t : TypeId) (fz : Nat × Nat), W.heap[k]? = some (.cells cs t fz) → (t = 5 ∨ t = 71) → W'.heap[k]? = some (.cells cs t fz)
/-- What is kept of them behind a part of the walk that was given the row v. -/
structure Ek (v : Value) (W W' : World) : Prop where
  size : W.heap.size ≤ W'.heap.size
  same : ∀ (k : Nat) (cs : Array Value) (t : TypeId) (fz : Nat × Nat), W.heap[k]? = some (.cells cs t fz) → (t = 71 ∨ (t = 5 ∧ some k ≠ v.ownBlock)) → W'.heap[k]? = some (.cells cs t fz)
theorem Ek.trans {v : Value} {A B C : World} (h : Ek v A B) (g : Ek v B C) : Ek v A C := ⟨Nat.le_trans h.size g.size, fun k cs t fz h0 hn => g.same k cs t fz (h.same k cs t fz h0 hn) hn⟩
theorem Ek.of_yk {v : Value} {A B : World} (h : Yk A B) : Ek v A B := ⟨h.size, fun k cs t fz h0 hn => h.same k cs t fz h0 (hn.elim .inr fun q => .inl q.1)⟩
theorem Ek.refl (v : Value) (A : World) : Ek v A A := ⟨Nat.le_refl _, fun _ _ _ _ h _ => h⟩
theorem Ek.place {v : Value} {A B : World} (h : Ek v A B) {t : PT} {up : Option Addr} (hp : PlAt A up t) : PlAt B up t := hp.keep fun k cs hk => h.same k cs _ _ hk (.inl rfl)
theorem WayAt.yk {W W' : World} {base : Nat} {v : Value} {way : Key} (h : WayAt W base v way) (hy : Yk W W') : WayAt W' base v way := by
  refine ⟨h.1, ?_⟩
  rcases h.2 with q | ⟨g, cap, cur, e, hb, hg, r⟩
  · exact .inl q
  · exact .inr ⟨g, cap, cur, e, hb, hy.same _ _ _ _ hg (.inl rfl), r⟩
/-- Behind one side: the row is as it was, up to its end. -/
theorem side_back {base : Nat} {w w1 w2 : World} {v v1 : Value} {way : Key} {c : UInt8} (o : Obj) (hbs : base ≤ w.heap.size) (h : WayAt w base v way) (hg : Grew (w.alloc o) v v1 way.length w1) (h1 : WayAt w2 base v1 (way ++ [c])) (hk : Ek v1 w1 w2) : Ek v w w2 ∧ WayAt w2 base v way := by
  have hal : ∀ k x, w.heap[k]? = some x → (w.alloc o).heap[k]? = some x := fun k x hx => (Below.heap_alloc _ _ _ (Array.getElem?_eq_some_iff.1 hx).1).trans hx
  rcases hg with ⟨g, cap, e1, e2, hg⟩ | ⟨cap, e2, hg⟩
  · subst e1
    subst e2
    refine ⟨⟨Nat.le_trans (by have := hg.size; simp at this; omega) hk.size, fun k cs t fz h0 hn => hk.same k cs t fz ((hg.block k (by simp; have := (Array.getElem?_eq_some_iff.1 h0).1; omega) (fun e => ?_)).trans (hal k _ h0)) hn⟩, h.1, .inr ?_⟩
    · injection e with e
      subst e
      rcases h.2 with ⟨e, _⟩ | ⟨g', cap', cur, e, hbg, hcur, _⟩
      · cases e
      · have e3 : k = g' := by injection e with e; injection e with e; injection e
        subst e3
        rw [hcur] at h0
        injection h0 with h0
        injection h0 with h3 h4 h5
        rcases hn with hn | hn
        · rw [← h4] at hn; exact absurd hn (by decide)
        · exact hn.2 rfl
    · rcases h1.2 with ⟨e, _⟩ | ⟨g', cap', cur, e, hbg, hcur, h3, h4, h5, h6⟩
      · cases e
      · have e3 : g = g' ∧ cap = cap' := by injection e with e _ e4; injection e with e; injection e with e; exact ⟨e, e4⟩
        obtain ⟨rfl, rfl⟩ := e3
        refine ⟨g, cap, cur, rfl, hbg, hcur, by simp at h3; omega, h4, h5, ?_⟩
        have h7 := congrArg (List.take way.length) h6
        rw [List.take_take] at h7
        simp only [List.length_append, List.length_singleton, Nat.mul_one] at h7 ⊢
        rw [show min way.length (way.length + 1) = way.length by omega] at h7
        rw [h7]
        unfold bcellsF
        rw [List.map_append, List.take_left' (by simp)]
  · subst e2
    have hsz : (w.alloc o).heap.size = w.heap.size + 1 := by simp
    have same : ∀ (k : Nat) (cs : Array Value) (t : TypeId) (fz : Nat × Nat), w.heap[k]? = some (.cells cs t fz) → (t = 71 ∨ t = 5) → w2.heap[k]? = some (.cells cs t fz) := fun k cs t fz h0 hn => hk.same k cs t fz ((hg.block k (by have := (Array.getElem?_eq_some_iff.1 h0).1; omega) (fun e => by cases e)).trans (hal k _ h0)) (hn.elim .inl fun q => .inr ⟨q, fun e => by
      have := (Array.getElem?_eq_some_iff.1 h0).1
      simp only [Value.ownBlock, Option.some.injEq] at e
      omega⟩)
    refine ⟨⟨Nat.le_trans (by have := hg.size; omega) hk.size, fun k cs t fz h0 hn => same k cs t fz h0 (hn.elim .inl fun q => .inr q.1)⟩, h.1, ?_⟩
    rcases h.2 with q | ⟨g, cap, cur, e, hb, hgc, r⟩
    · exact .inl q
    · exact .inr ⟨g, cap, cur, e, hb, same _ _ _ _ hgc (.inr rfl), r⟩
theorem WayAt.alloc {W : World} {base : Nat} {v : Value} {way : Key} (h : WayAt W base v way) (o : Obj) : WayAt (W.alloc o) base v way := World.ownsRow.alloc h o

def PT.depth : PT → Nat
  | .no => 0
  | .is _ _ l r => 1 + max l.depth r.depth
def PT.ways (t : PT) (p : Key) : List Key := (t.wants p).map Prod.fst
end Go.Proofs.YtmhllihedejehaaGreat
