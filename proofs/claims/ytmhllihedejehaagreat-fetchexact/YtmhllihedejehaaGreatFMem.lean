/- The places of a tree that is being fetched, in memory; what is done with one place. -/
import Derived.Test.YtmhllihedejehaaGreatM05
import Derived.Deep.RegionHeld3
import Derived.Deep.Cut
import Derived.LaidEqlPtr
namespace Go.Proofs.YtmhllihedejehaaGreat
open Go.RowKit
set_option linter.unusedVariables false
set_option linter.unusedSimpArgs false

/-- Where a place lies. -/
def PT.at : PT → Option Addr
  | .no => none
  | .is b _ _ _ => some ⟨b, 0, none⟩
/-- A place in memory, and all below it. -/
def PlAt (w : World) : Option Addr → PT → Prop
  | _, .no => True
  | up, .is b d l r => Blk w b #[.int .u64 d, .pointer up, .pointer l.at, .pointer r.at] 71 ∧ PlAt w (some ⟨b, 0, none⟩) l ∧ PlAt w (some ⟨b, 0, none⟩) r
theorem PlAt.keep {w w' : World} (hk : ∀ k cs, Blk w k cs 71 → Blk w' k cs 71) : ∀ {t : PT} {up : Option Addr}, PlAt w up t → PlAt w' up t
  | .no, _, _ => trivial
  | .is b d l r, _, h => ⟨hk _ _ h.1, PlAt.keep hk h.2.1, PlAt.keep hk h.2.2⟩
theorem PlAt.below {w w' : World} (hb : Below w.heap.size w w') {t : PT} {up : Option Addr} (h : PlAt w up t) : PlAt w' up t := h.keep fun k cs hk => hk.below hb hk.lt
theorem PlAt.lt {w : World} : ∀ {t : PT} {up : Option Addr}, PlAt w up t → ∀ b ∈ t.bs, b < w.heap.size
  | .no, _, _, b, hb => by cases hb
  | .is c d l r, _, h, b, hb => by
    rcases List.mem_cons.1 hb with e | e
    · rw [e]; exact h.1.lt
    · rcases List.mem_append.1 e with q | q
      · exact PlAt.lt h.2.1 b q
      · exact PlAt.lt h.2.2 b q
/-- Only these blocks hang on it. -/
theorem PlAt.only {w w' : World} : ∀ {t : PT} {up : Option Addr}, PlAt w up t → (∀ k ∈ t.bs, w'.heap[k]? = w.heap[k]?) → PlAt w' up t
  | .no, _, _, _ => trivial
  | .is b d l r, _, h, hk => ⟨(hk b (List.mem_cons_self ..)).trans h.1, PlAt.only h.2.1 fun k q => hk k (List.mem_cons_of_mem _ (List.mem_append_left _ q)), PlAt.only h.2.2 fun k q => hk k (List.mem_cons_of_mem _ (List.mem_append_right _ q))⟩
/-- The place at a way lies there; what is above it. -/
theorem PlAt.get {w : World} : ∀ (ws : Key) {t : PT} {up : Option Addr} {s : PT}, PlAt w up t → t.get ws = some s → ∃ up', PlAt w up' s ∧ (ws = [] → up' = up) ∧ (∀ vs c, ws = vs ++ [c] → ∃ u, t.get vs = some u ∧ up' = u.at)
  | [], t, up, s, h, hg => by
    rw [PT.get_nil] at hg; injection hg with hg; subst hg
    exact ⟨up, h, fun _ => rfl, fun vs c e => by simp at e⟩
  | c :: ws, .no, up, s, h, hg => by cases hg
  | c :: ws, .is b d l r, up, s, h, hg => by
    rw [PT.get_cons] at hg
    have key : ∀ x : PT, (∀ vs, (PT.is b d l r).get (c :: vs) = x.get vs) → PlAt w (some ⟨b, 0, none⟩) x → x.get ws = some s → ∃ up', PlAt w up' s ∧ (c :: ws = [] → up' = up) ∧ (∀ vs e, c :: ws = vs ++ [e] → ∃ u, (PT.is b d l r).get vs = some u ∧ up' = u.at) := by
      intro x hx hp hg
      obtain ⟨up', h1, h2, h3⟩ := PlAt.get ws hp hg
      refine ⟨up', h1, (fun e => by cases e), fun vs e he => ?_⟩
      cases vs with
      | nil =>
        simp only [List.nil_append, List.cons.injEq] at he
        rw [h2 he.2]
        exact ⟨_, PT.get_nil _, rfl⟩
      | cons v vs =>
        simp only [List.cons_append, List.cons.injEq] at he
        obtain ⟨u, hu, e2⟩ := h3 vs e he.2
        exact ⟨u, by rw [← he.1, hx]; exact hu, e2⟩
    by_cases h1 : c = 48
    · rw [if_pos h1] at hg
      exact key l (fun vs => by rw [PT.get_cons, if_pos h1]) h.2.1 hg
    · rw [if_neg h1] at hg
      by_cases h2 : c = 49
      · rw [if_pos h2] at hg
        exact key r (fun vs => by rw [PT.get_cons, if_neg h1, if_pos h2]) h.2.2 hg
      · rw [if_neg h2] at hg; cases hg
theorem PT.at_put (ws : Key) (t : PT) (b : Nat) (d d' : Int) (l r l' r' : PT) (h : t.get ws = some (.is b d l r)) : (t.put ws (.is b d' l' r')).at = t.at := by
  cases ws with
  | nil => rw [PT.get_nil] at h; injection h with h; subst h; rw [PT.put_nil]; rfl
  | cons c ws =>
    cases t with
    | no => cases h
    | is b0 d0 l0 r0 => rw [PT.put_cons]; split <;> try (split <;> rfl)
                        rfl
theorem PT.get_bs (ws : Key) (t : PT) {b : Nat} {d : Int} {l r : PT} (h : t.get ws = some (.is b d l r)) : b ∈ t.bs := by
  obtain ⟨X, Y, e, _⟩ := PT.bs_ctx ws t _ h
  rw [e]
  exact List.mem_append_right _ (List.mem_append_left _ (List.mem_cons_self ..))
/-- One place is written anew. -/
theorem PlAt.put {w w' : World} : ∀ (ws : Key) {t : PT} {up : Option Addr} {b : Nat} {d : Int} {l r l' r' : PT}, PlAt w up t → t.get ws = some (.is b d l r) → t.bs.Nodup →
    (∀ k ∈ t.bs, k ≠ b → w'.heap[k]? = w.heap[k]?) → (∀ up', Blk w b #[.int .u64 d, .pointer up', .pointer l.at, .pointer r.at] 71 → PlAt w' up' (.is b d l' r')) → PlAt w' up (t.put ws (.is b d l' r'))
  | [], t, up, b, d, l, r, l', r', h, hg, hn, hk, hs => by
    rw [PT.get_nil] at hg; injection hg with hg; subst hg
    rw [PT.put_nil]
    exact hs up h.1
  | c :: ws, .no, up, b, d, l, r, l', r', h, hg, hn, hk, hs => by cases hg
  | c :: ws, .is b0 d0 l0 r0, up, b, d, l, r, l', r', h, hg, hn, hk, hs => by
    rw [PT.get_cons] at hg
    have hn' : b0 ∉ l0.bs ++ r0.bs ∧ (l0.bs ++ r0.bs).Nodup := List.nodup_cons.1 hn
    have hn2 := List.nodup_append.1 hn'.2
    rw [PT.put_cons]
    by_cases h1 : c = 48
    · rw [if_pos h1] at hg ⊢
      have hb := PT.get_bs ws l0 hg
      refine ⟨?_, PlAt.put ws h.2.1 hg hn2.1 (fun k q => hk k (List.mem_cons_of_mem _ (List.mem_append_left _ q))) hs, h.2.2.only fun k q => hk k (List.mem_cons_of_mem _ (List.mem_append_right _ q)) (fun e => hn2.2.2 b hb k q e.symm)⟩
      rw [PT.at_put ws l0 b d d l r l' r' hg]
      exact (hk b0 (List.mem_cons_self ..) (fun e => hn'.1 (e ▸ List.mem_append_left _ hb))).trans h.1
    · rw [if_neg h1] at hg ⊢
      by_cases h2 : c = 49
      · rw [if_pos h2] at hg ⊢
        have hb := PT.get_bs ws r0 hg
        refine ⟨?_, h.2.1.only fun k q => hk k (List.mem_cons_of_mem _ (List.mem_append_left _ q)) (fun e => hn2.2.2 k q b hb e), PlAt.put ws h.2.2 hg hn2.2.1 (fun k q => hk k (List.mem_cons_of_mem _ (List.mem_append_right _ q))) hs⟩
        rw [PT.at_put ws r0 b d d l r l' r' hg]
        exact (hk b0 (List.mem_cons_self ..) (fun e => hn'.1 (e ▸ List.mem_append_right _ hb))).trans h.1
      · rw [if_neg h2] at hg; cases hg

theorem isEnd_any (b : Nat) (d : Int) (up : Value) (l r : PT) (w : World) (h : Blk w b #[.int .u64 d, up, .pointer l.at, .pointer r.at] 71) :
    Calls Tryz.prog 56 #[.pointer (some ⟨b, 0, none⟩)] w fun e w' => e = .returned (.bool (l.isNo && r.isNo)) ∧ w = w' := by
  have c2 := (h.cell 2).trans rfl
  have c3 := (h.cell 3).trans rfl
  clear h
  cases l <;> cases r <;> simp only [PT.at] at c2 c3
  all_goals
    go_enter Tryz.func56, Tryz.ntmps56
    go_wp2
    go_ret
    exact ⟨rfl, rfl⟩

/-- What is no memory is as it was. -/
def Env (w w' : World) : Prop := w'.os = w.os ∧ w'.tape = w.tape ∧ w'.output = w.output
theorem Env.refl (w : World) : Env w w := ⟨rfl, rfl, rfl⟩
theorem Env.trans {u v w : World} (h : Env u v) (k : Env v w) : Env u w := ⟨k.1.trans h.1, k.2.1.trans h.2.1, k.2.2.trans h.2.2⟩
theorem Env.of_below {B : Nat} {w w' : World} (h : Below B w w') : Env w w' := ⟨h.os, h.tape, h.output⟩
/-- All blocks but this one are as they were. -/
structure Only (b : Nat) (w w' : World) : Prop where
  env : Env w w'
  size : w.heap.size ≤ w'.heap.size
  same : ∀ k, k < w.heap.size → k ≠ b → w'.heap[k]? = w.heap[k]?
theorem Only.refl (b : Nat) (w : World) : Only b w w := ⟨Env.refl _, Nat.le_refl _, fun _ _ _ => rfl⟩
theorem Only.trans {b : Nat} {u v w : World} (h : Only b u v) (k : Only b v w) : Only b u w := ⟨h.env.trans k.env, Nat.le_trans h.size k.size, fun i hi hb => (k.same i (Nat.lt_of_lt_of_le hi h.size) hb).trans (h.same i hi hb)⟩
theorem Only.of_below {b : Nat} {w w' : World} (h : Below w.heap.size w w') : Only b w w' := ⟨Env.of_below h, h.size, fun k hk _ => h.block k hk⟩
theorem Only.alloc {b : Nat} {u w : World} (h : Only b u w) (o : Obj) : Only b u (w.alloc o) := h.trans (.of_below ((Below.refl _ _).alloc (Nat.le_refl _) o))
theorem Only.set {b : Nat} {u w : World} (h : Only b u w) (i : Nat) (v : Value) : Only b u (w.setCell ⟨b, i, none⟩ v) :=
  h.trans ⟨⟨rfl, rfl, rfl⟩, by rw [size_setCell]; exact Nat.le_refl _, fun k _ hk => Below.heap_setCell _ _ _ k hk⟩

set_option maxRecDepth 4000 in
theorem fork_any (b : Nat) (d dl dr : Int) (up : Option Addr) (w : World) (h : Blk w b #[.int .u64 d, .pointer up, .pointer none, .pointer none] 71) :
    Calls Tryz.prog 59 #[.pointer (some ⟨b, 0, none⟩), .int .u64 dl, .int .u64 dr] w fun e w' => (∃ v, e = .returned v) ∧ Only b w w' ∧
      PlAt w' up (.is b d (.is w.heap.size dl .no .no) (.is (w.heap.size + 1) dr .no .no)) := by
  have zb := h.lt
  have k1 := (h.set 2 (.pointer (some ⟨w.heap.size, 0, none⟩))).alloc (.cells #[.int .u64 dl, .pointer (some ⟨b, 0, none⟩), .pointer none, .pointer none] 71)
  have n1 := Blk.new (w.setCell ⟨b, 2, none⟩ (.pointer (some ⟨w.heap.size, 0, none⟩))) #[.int .u64 dl, .pointer (some ⟨b, 0, none⟩), .pointer none, .pointer none] 71
  have O1 := ((Only.refl b w).set 2 (.pointer (some ⟨w.heap.size, 0, none⟩))).alloc (.cells #[.int .u64 dl, .pointer (some ⟨b, 0, none⟩), .pointer none, .pointer none] 71)
  rw [size_setCell] at n1
  have c2 := (h.cell 2).trans rfl
  have f2 := h.frozen 2
  go_enter Tryz.func59, Tryz.ntmps59
  go_upto_region 1 with fail
  have sz : ((w.setCell ⟨b, 2, none⟩ (.pointer (some ⟨w.heap.size, 0, none⟩))).alloc (.cells #[.int .u64 dl, .pointer (some ⟨b, 0, none⟩), .pointer none, .pointer none] 71)).heap.size = w.heap.size + 1 := by rw [World.size_alloc, size_setCell]
  generalize (w.setCell ⟨b, 2, none⟩ (.pointer (some ⟨w.heap.size, 0, none⟩))).alloc (.cells #[.int .u64 dl, .pointer (some ⟨b, 0, none⟩), .pointer none, .pointer none] 71) = w1 at *
  clear h c2 f2
  have c3 := (k1.cell 3).trans rfl
  have f3 := k1.frozen 3
  have z1 := k1.lt
  have kk := (k1.set 3 (.pointer (some ⟨w1.heap.size, 0, none⟩))).alloc (.cells #[.int .u64 dr, .pointer (some ⟨b, 0, none⟩), .pointer none, .pointer none] 71)
  have n2 := Blk.new (w1.setCell ⟨b, 3, none⟩ (.pointer (some ⟨w1.heap.size, 0, none⟩))) #[.int .u64 dr, .pointer (some ⟨b, 0, none⟩), .pointer none, .pointer none] 71
  have n1' := (n1.setOther ⟨b, 3, none⟩ (by simp; omega) (.pointer (some ⟨w1.heap.size, 0, none⟩))).alloc (.cells #[.int .u64 dr, .pointer (some ⟨b, 0, none⟩), .pointer none, .pointer none] 71)
  have O2 := (O1.set 3 (.pointer (some ⟨w1.heap.size, 0, none⟩))).alloc (.cells #[.int .u64 dr, .pointer (some ⟨b, 0, none⟩), .pointer none, .pointer none] 71)
  rw [size_setCell] at n2
  rw [sz] at kk n2 n1' O2
  clear k1 n1 O1
  go_wp2
  go_end0
  exact ⟨⟨_, rfl⟩, O2, kk, ⟨n1', trivial, trivial⟩, n2, trivial, trivial⟩

theorem infoPl : ∃ j, Tryz.prog.info? 71 = some j ∧ j.size ≠ 0 := by
  have h : (Tryz.prog.info? 71).map (fun i => i.size) = some 4 := by kernel_rfl
  cases hj : Tryz.prog.info? 71 with
  | none => rw [hj] at h; cases h
  | some j => rw [hj] at h; exact ⟨j, rfl, by simp at h; omega⟩
theorem eql_same (a : Addr) (w : World) : (binOp .eql 68 (.pointer (some a)) (.pointer (some a))).run Tryz.prog w = .ok (.bool true) w := by
  obtain ⟨j, h, _⟩ := infoPl
  exact run_eql_ptr_same w a Tryz.underlying68 h
theorem eql_other {w : World} {a b : Nat} {ca cb : Array Value} {ta tb : TypeId} (hne : a ≠ b) (ha : Blk w a ca ta) (hb : Blk w b cb tb) : (binOp .eql 68 (.pointer (some ⟨a, 0, none⟩)) (.pointer (some ⟨b, 0, none⟩))).run Tryz.prog w = .ok (.bool false) w := by
  obtain ⟨j, h, hz⟩ := infoPl
  exact run_eql_ptr_other w Tryz.underlying68 h hz (fun e => hne (by injection e)) ha hb
theorem eql_none (b : Addr) (w : World) : (binOp .eql 68 (.pointer none) (.pointer (some b))).run Tryz.prog w = .ok (.bool false) w := by
  obtain ⟨j, hj, hz⟩ := infoPl
  have h : ∀ d : Nat, (Op.equalIn (d + 1) 68 (.pointer none) (.pointer (some b))).run Tryz.prog w = .ok false w := fun d => by
    simp [Op.equalIn, run_underlying Tryz.underlying68, sizeOf, typeInfo, hj, hz]
  simp only [binOp]
  simp [Op.equal, Op.maxDepth, h 9999]

set_option maxRecDepth 4000 in
theorem cut_left (b c : Nat) (d : Int) (up : Option Addr) (r : PT) (w : World) (h : Blk w b #[.int .u64 d, .pointer up, .pointer (some ⟨c, 0, none⟩), .pointer r.at] 71) :
    Calls Tryz.prog 79 #[.pointer (some ⟨b, 0, none⟩), .pointer (some ⟨c, 0, none⟩)] w fun e w' => (∃ v, e = .returned v) ∧ Only b w w' ∧ Blk w' b #[.int .u64 d, .pointer up, .pointer none, .pointer r.at] 71 := by
  have c2 := (h.cell 2).trans rfl
  have f2 := h.frozen 2
  have k := h.set 2 (.pointer none)
  have O := (Only.refl b w).set 2 (.pointer none)
  clear h
  have E := eql_same ⟨c, 0, none⟩ w
  go_enter Tryz.func79, Tryz.ntmps79
  go_wp2
  go_end0
  exact ⟨⟨_, rfl⟩, O, k⟩
set_option maxRecDepth 4000 in
theorem cut_right (b c : Nat) (d : Int) (up : Option Addr) (l : PT) (w : World) (hl : ∀ e d2 l2 r2, l = .is e d2 l2 r2 → e ≠ c ∧ (∃ ce, Blk w e ce 71) ∧ ∃ cc, Blk w c cc 71) (h : Blk w b #[.int .u64 d, .pointer up, .pointer l.at, .pointer (some ⟨c, 0, none⟩)] 71) :
    Calls Tryz.prog 79 #[.pointer (some ⟨b, 0, none⟩), .pointer (some ⟨c, 0, none⟩)] w fun e w' => (∃ v, e = .returned v) ∧ Only b w w' ∧ Blk w' b #[.int .u64 d, .pointer up, .pointer l.at, .pointer none] 71 := by
  have c2 := (h.cell 2).trans rfl
  have c3 := (h.cell 3).trans rfl
  have f3 := h.frozen 3
  have k := h.set 3 (.pointer none)
  have O := (Only.refl b w).set 3 (.pointer none)
  clear h
  cases l with
  | no =>
    simp only [PT.at] at c2 k ⊢
    have E := eql_none ⟨c, 0, none⟩ w
    go_enter Tryz.func79, Tryz.ntmps79
    go_wp2
    go_end0
    exact ⟨⟨_, rfl⟩, O, k⟩
  | is e d2 l2 r2 =>
    obtain ⟨h1, ⟨_, h2⟩, _, h3⟩ := hl e d2 l2 r2 rfl
    have E := eql_other h1 h2 h3
    clear hl h2 h3
    simp only [PT.at] at c2 k ⊢
    go_enter Tryz.func79, Tryz.ntmps79
    go_wp2
    go_end0
    exact ⟨⟨_, rfl⟩, O, k⟩
end Go.Proofs.YtmhllihedejehaaGreat
