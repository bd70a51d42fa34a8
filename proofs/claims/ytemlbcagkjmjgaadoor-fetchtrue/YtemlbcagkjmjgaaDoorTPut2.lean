/- A key is put into a tree: what changes. -/
import Derived.Test.YtemlbcagkjmjgaaDoorM18
namespace Go.Proofs.YtemlbcagkjmjgaaDoor
open Go.RowKit
set_option linter.unusedVariables false
set_option linter.unusedSimpArgs false

theorem TopAt.ptr {wd : Int} {w : World} {v : Value} {o : Option Tr} (h : TopAt wd w v o) : ∃ q, v = .pointer q := by
  cases o with
  | none => exact ⟨none, h⟩
  | some t => obtain ⟨b, e, _⟩ := h; exact ⟨_, e⟩
theorem TopAt.setNew {wd : Int} {w w2 : World} {v : Value} {o : Option Tr} (h : TopAt wd w v o) (hb : Below w.heap.size w w2) : TopAt wd w2 v o := TopAt.below hb h

/-- A store into a block that is no node. -/
theorem NodeAt.setOff {wd : Int} {w : World} {c : Nat} {cs : Array Value} (hc : Blk w c cs 34) (i : Nat) (u : Value) : ∀ {t : Tr} {b : Nat}, NodeAt wd w b t → NodeAt wd (w.setCell ⟨c, i, none⟩ u) b t
  | .leaf k v, b, h => Blk.setOther h _ (fun e => by
      have e : b = c := e
      subst e
      have := Option.some.inj (h.symm.trans hc)
      injection this with _ h2 _
      exact absurd h2 (by decide)) _
  | .fork p l r, b, h => by
    obtain ⟨bl, br, h, h1, h2⟩ := h
    refine ⟨bl, br, h.setOther _ (fun e => ?_) _, NodeAt.setOff hc i u h1, NodeAt.setOff hc i u h2⟩
    have e : b = c := e
    subst e
    have := Option.some.inj (h.symm.trans hc)
    injection this with _ h2 _
    exact absurd h2 (by decide)
theorem TopAt.setOff {wd : Int} {w : World} {c : Nat} {cs : Array Value} {v : Value} {o : Option Tr} (h : TopAt wd w v o) (hc : Blk w c cs 34) (i : Nat) (u : Value) : TopAt wd (w.setCell ⟨c, i, none⟩ u) v o := by
  cases o with
  | none => exact h
  | some t => obtain ⟨b, e, h⟩ := h; exact ⟨b, e, NodeAt.setOff hc i u h⟩

/-- The tree's two cells, and the answer's, in a world. -/
structure PutAt (w0 : World) (wd : Int) (q : Option Addr) (w : World) : Prop where
  below : Below w0.heap.size w0 w
  t : Blk w w0.heap.size #[.int .i64 wd, .pointer q] 34
  r : Blk w (w0.heap.size + 1) #[.int .i64 0, .pointer none] 34
theorem PutAt.next {w0 w w' : World} {wd : Int} {q : Option Addr} (h : PutAt w0 wd q w) (hb : Below w.heap.size w w') : PutAt w0 wd q w' :=
  ⟨h.below.trans (hb.mono h.below.size), h.t.below hb h.t.lt, h.r.below hb h.r.lt⟩
theorem PutAt.set {w0 w : World} {wd : Int} {q : Option Addr} (h : PutAt w0 wd q w) (q' : Option Addr) : PutAt w0 wd q' (w.setCell ⟨w0.heap.size, 1, none⟩ (.pointer q')) :=
  ⟨h.below.setCell (p := ⟨w0.heap.size, 1, none⟩) (Nat.le_refl _) _, h.t.set 1 (.pointer q'), h.r.setOther _ (by show _ ≠ w0.heap.size; omega) _⟩
theorem PutAt.facts {w0 w : World} {wd : Int} {q : Option Addr} (h : PutAt w0 wd q w) : w.cell? ⟨w0.heap.size, 0, none⟩ = some (.int .i64 wd) ∧ w.cell? ⟨w0.heap.size, 1, none⟩ = some (.pointer q) ∧ w.cell? ⟨w0.heap.size + 1, 0, none⟩ = some (.int .i64 0) ∧ w.cell? ⟨w0.heap.size + 1, 1, none⟩ = some (.pointer none) ∧ w.frozen? ⟨w0.heap.size, 1, none⟩ = false ∧ w.frozen? ⟨w0.heap.size + 1, 0, none⟩ = false ∧ w.frozen? ⟨w0.heap.size + 1, 1, none⟩ = false :=
  ⟨(h.t.cell 0).trans rfl, (h.t.cell 1).trans rfl, (h.r.cell 0).trans rfl, (h.r.cell 1).trans rfl, h.t.frozen 1, h.r.frozen 0, h.r.frozen 1⟩
theorem PutAt.start (w : World) (wd : Int) (q : Option Addr) : PutAt w wd q ((w.alloc (.cells #[.int .i64 wd, .pointer q] 34)).alloc (.cells #[.int .i64 0, .pointer none] 34)) := by
  refine ⟨((Below.refl _ _).alloc (Nat.le_refl _) _).alloc (by simp) _, (Blk.new w _ _).alloc _, ?_⟩
  have := Blk.new (w.alloc (.cells #[.int .i64 wd, .pointer q] 34)) #[.int .i64 0, .pointer none] 34
  rwa [World.size_alloc] at this

/-- A tree is as it was behind the three stores. -/
theorem PutAt.tops {w0 w : World} {wd : Int} {q : Option Addr} (h : PutAt w0 wd q w) (q' : Option Addr) (u1 u2 : Value) {v : Value} {o : Option Tr} (hv : TopAt wd w v o) :
    TopAt wd (((w.setCell ⟨w0.heap.size, 1, none⟩ (.pointer q')).setCell ⟨w0.heap.size + 1, 0, none⟩ u1).setCell ⟨w0.heap.size + 1, 1, none⟩ u2) v o := by
  have h1 := (h.set q').r
  exact ((hv.setOff h.t 1 _).setOff h1 0 u1).setOff (h1.set 0 u1) 1 u2

set_option maxHeartbeats 3200000 in
theorem put_without (wd : Int) (b : Nat) (t : Tr) (key : Key) (w : World) (hw : okW wd) (hk : key.length ≤ 32) (hp : t.placed) (h : NodeAt wd w b t) (he : ¬ getO key (some t) = []) :
    Calls Tryd.prog 19 #[.agg #[.int .i64 wd, .pointer (some ⟨b, 0, none⟩)], .string (str key), .string (str [])] w fun e w' => ∃ q, e = .returned (.tuple #[.agg #[.int .i64 wd, .pointer q], .int .i64 0]) ∧ TopAt wd w' (.pointer q) (t.without key) ∧ Below w.heap.size w w' := by
  have s1 := str_size key
  have s2 := str_size []
  have h1' : ¬ (32 : Int) < (key.length : Int) := by omega
  have PA := PutAt.start w wd (some ⟨b, 0, none⟩)
  have key1 := get_any wd (.pointer (some ⟨b, 0, none⟩)) (some t) key _ (by unfold maxLen; omega) (fun u e => by cases e; exact hp) (TopAt.below PA.below ⟨b, rfl, h⟩)
  obtain ⟨G, HG⟩ : ∃ G, Hid (getO key (some t) = G) := ⟨_, rfl⟩
  rw [HG.out] at key1 he
  have hGb : (G == []) = false := by simpa using he
  have hGe : G.isEmpty = false := by cases G with | nil => exact (he rfl).elim | cons _ _ => rfl
  have l1 := str_toList G
  have l2 := str_toList []
  go_enter Tryd.func19, Tryd.ntmps19
  go_wp2_with fail
  generalize (w.alloc (.cells #[.int .i64 wd, .pointer (some ⟨b, 0, none⟩)] 34)).alloc (.cells #[.int .i64 0, .pointer none] 34) = wA at *
  refine key1.mono ?_
  rintro e w1 ⟨rfl, b1⟩
  have P1 := PA.next b1
  obtain ⟨t0, t1, r0, r1, g0, g1, g2⟩ := P1.facts
  have z1 := P1.t.lt
  have z2 := P1.r.lt
  have key2 := without_any wd (some ⟨b, 0, none⟩) key hw (by unfold maxLen; omega) t b w1 hp (NodeAt.below P1.below h)
  clear key1
  go_wp2_with fail
  refine key2.mono ?_
  rintro e w2 ⟨v, rfl, hv, b2⟩
  obtain ⟨q, rfl⟩ := hv.ptr
  have P2 := P1.next b2
  have P3 := P2.set q
  clear t0 t1 r0 r1 g0 g1 g2 z1 z2
  obtain ⟨t0, t1, r0, r1, g0, g1, g2⟩ := P2.facts
  obtain ⟨t0', t1', r0', r1', g0', g1', g2'⟩ := P3.facts
  have z1 := P2.t.lt
  have z2 := P2.r.lt
  clear key2
  go_wp2
  refine bodyPost_ret (v := .tuple #[.agg #[.int .i64 wd, .pointer q], .int .i64 0]) (by simp [results, Tryd.results19, go_sem, t0, t1, r0, r1, g0, g1, g2, t0', t1', r0', r1', g0', g1', g2', z1, z2]) rfl ⟨q, rfl, ?_, (P3.below.setCell (p := ⟨w.heap.size + 1, 0, none⟩) (Nat.le_succ _) _).setCell (p := ⟨w.heap.size + 1, 1, none⟩) (Nat.le_succ _) _⟩
  exact P2.tops q _ _ hv

set_option maxHeartbeats 3200000 in
theorem put_first (wd : Int) (key value : Key) (w : World) (hw : okW wd) (hk : key.length ≤ 32) (hv : value.length ≤ 4096) (hne : ¬ value = []) :
    Calls Tryd.prog 19 #[.agg #[.int .i64 wd, .pointer none], .string (str key), .string (str value)] w fun e w' => ∃ q, e = .returned (.tuple #[.agg #[.int .i64 wd, .pointer q], .int .i64 0]) ∧ TopAt wd w' (.pointer q) (some (.leaf key value)) ∧ Below w.heap.size w w' := by
  have s1 := str_size key
  have s2 := str_size value
  have h1' : ¬ (32 : Int) < (key.length : Int) := by omega
  have h2' : ¬ (4096 : Int) < (value.length : Int) := by omega
  have PA := PutAt.start w wd none
  have key1 := fun w' => get_none wd (str key) w'
  have hGb : ([] == value) = false := by cases value with | nil => exact (hne rfl).elim | cons _ _ => rfl
  have hGc : (value == []) = false := by simpa using hne
  have hGe : value.isEmpty = false := by cases value with | nil => exact (hne rfl).elim | cons _ _ => rfl
  have l1 := str_toList value
  go_enter Tryd.func19, Tryd.ntmps19
  go_wp2_with fail
  generalize (w.alloc (.cells #[.int .i64 wd, .pointer none] 34)).alloc (.cells #[.int .i64 0, .pointer none] 34) = wA at *
  refine (key1 _).mono ?_
  rintro e w1 ⟨rfl, b1⟩
  have P1 := PA.next b1
  obtain ⟨t0, t1, r0, r1, g0, g1, g2⟩ := P1.facts
  have z1 := P1.t.lt
  have z2 := P1.r.lt
  have key2 := leafOf_any wd key value w1 hw (by omega) (by omega)
  clear key1
  go_wp2_with fail
  refine key2.mono ?_
  rintro e w2 ⟨c, rfl, hn, b2⟩
  have P2 := P1.next b2
  have P3 := P2.set (some ⟨c, 0, none⟩)
  clear t0 t1 r0 r1 g0 g1 g2 z1 z2
  obtain ⟨t0, t1, r0, r1, g0, g1, g2⟩ := P2.facts
  obtain ⟨t0', t1', r0', r1', g0', g1', g2'⟩ := P3.facts
  have z1 := P2.t.lt
  have z2 := P2.r.lt
  have hv : TopAt wd w2 (.pointer (some ⟨c, 0, none⟩)) (some (.leaf key value)) := ⟨c, rfl, hn⟩
  clear key2
  go_wp2
  refine bodyPost_ret (v := .tuple #[.agg #[.int .i64 wd, .pointer (some ⟨c, 0, none⟩)], .int .i64 0]) (by simp [results, Tryd.results19, go_sem, t0, t1, r0, r1, g0, g1, g2, t0', t1', r0', r1', g0', g1', g2', z1, z2]) rfl ⟨_, rfl, ?_, (P3.below.setCell (p := ⟨w.heap.size + 1, 0, none⟩) (Nat.le_succ _) _).setCell (p := ⟨w.heap.size + 1, 1, none⟩) (Nat.le_succ _) _⟩
  exact P2.tops _ _ _ hv
end Go.Proofs.YtemlbcagkjmjgaaDoor
