/- The law of trees under way: both trees. -/
import Derived.Test.YtfjkgglflmakhaaDoorZSteps
import Derived.Test.YtfjkgglflmakhaaDoorM32
import Derived.Test.YtfjkgglflmakhaaDoorM40
import Derived.Test.YtfjkgglflmakhaaDoorZRAt
import Derived.Test.YtfjkgglflmakhaaDoorM18
namespace Go.Proofs.YtfjkgglflmakhaaDoor
open Go.RowKit
set_option linter.unusedVariables false
set_option linter.unusedSimpArgs false

theorem ItemsAt.setOff {w : World} {la : Option Addr} {l : List (Key × Key)} {c : Nat} {cs : Array Value} {t : TypeId} (h : ItemsAt w la l) (hc : Blk w c cs t) (hn : ∀ (j : Nat) (s : ByteArray), cs[j]? ≠ some (.string s)) (i : Nat) (u : Value) : ItemsAt (w.setCell ⟨c, i, none⟩ u) la l := by
  rcases h with h | ⟨b, off, e, hl, hx⟩
  · exact .inl h
  · cases l with
    | nil => exact .inl rfl
    | cons y r =>
      have hbc : c ≠ b := by
        intro e2
        subst e2
        have := (hx 0 y rfl).1
        rw [hc.cell] at this
        exact hn _ _ this
      refine .inr ⟨b, off, e, by rw [size_setCell]; exact hl, fun j x hj => ?_⟩
      obtain ⟨h1, h2⟩ := hx j x hj
      exact ⟨by rw [cell_off ⟨c, i, none⟩ ⟨b, off + j * 2, none⟩ u hbc]; exact h1, by rw [cell_off ⟨c, i, none⟩ ⟨b, off + j * 2 + 1, none⟩ u hbc]; exact h2⟩
theorem NodeAt.setAny {wd : Int} {w : World} {c : Nat} {cs : Array Value} {T : TypeId} (hc : Blk w c cs T) (hT : 63 ≠ T) (i : Nat) (u : Value) : ∀ {t : Tr} {b : Nat}, NodeAt wd w b t → NodeAt wd (w.setCell ⟨c, i, none⟩ u) b t
  | .leaf k v, b, h => Blk.setOther h _ (fun e => by
      have e : b = c := e
      subst e
      have := Option.some.inj (h.symm.trans hc)
      injection this with _ h2 _
      exact absurd h2 hT) _
  | .fork p l r, b, h => by
    obtain ⟨bl, br, h, h1, h2⟩ := h
    refine ⟨bl, br, h.setOther _ (fun e => ?_) _, NodeAt.setAny hc hT i u h1, NodeAt.setAny hc hT i u h2⟩
    have e : b = c := e
    subst e
    have := Option.some.inj (h.symm.trans hc)
    injection this with _ h2 _
    exact absurd h2 hT
theorem TopAt.setAny {wd : Int} {w : World} {c : Nat} {cs : Array Value} {T : TypeId} {v : Value} {o : Option Tr} (h : TopAt wd w v o) (hc : Blk w c cs T) (hT : 63 ≠ T) (i : Nat) (u : Value) : TopAt wd (w.setCell ⟨c, i, none⟩ u) v o := by
  cases o with
  | none => exact h
  | some t => obtain ⟨b, e, h⟩ := h; exact ⟨b, e, NodeAt.setAny hc hT i u h⟩
theorem noStr_t (a : Int) (q : Option Addr) : ∀ (j : Nat) (s : ByteArray), (#[Value.int .i64 a, .pointer q])[j]? ≠ some (.string s) := by
  intro j s h
  rcases j with _ | _ | j <;> simp at h
theorem noStr_u (a : Int) (q : Option Addr) (n c : Nat) : ∀ (j : Nat) (s : ByteArray), (#[Value.int .i64 a, .slice q n c])[j]? ≠ some (.string s) := by
  intro j s h
  rcases j with _ | _ | j <;> simp at h

theorem putGo_len (key value : Key) : ∀ (l : List (Key × Key)), (putGo key value true l).length ≤ l.length ∧ (putGo key value false l).length ≤ l.length + 1
  | [] => by simp [putGo]
  | x :: xs => by
    have h := putGo_len key value xs
    have hx : ∀ (b : Bool), (if b then ([] : List (Key × Key)) else [x]).length ≤ 1 := fun b => by cases b <;> simp
    refine ⟨?_, ?_⟩
    · simp only [putGo, Bool.not_true, Bool.false_and, Bool.false_eq_true, if_false, List.nil_append, Bool.true_or, List.length_append, List.length_cons]
      have := hx (x.1 == key)
      omega
    · simp only [putGo, Bool.not_false, Bool.true_and, Bool.false_or, List.length_append, List.length_cons]
      have := hx (x.1 == key)
      by_cases hle : (Op.bytesLess key x.1 || key == x.1) = true
      · simp only [hle, if_true, List.length_cons, List.length_nil]; omega
      · have hf : (Op.bytesLess key x.1 || key == x.1) = false := by simpa using hle
        simp only [hf, Bool.false_eq_true, if_false, List.length_nil]; omega

/-- Both trees: the program's in tb, the answer's in ub. -/
structure TE (w0 : World) (tb ub : Nat) (wd : Int) (q la : Option Addr) (c : Nat) (o : Option Tr) (w : World) : Prop where
  below : Below w0.heap.size w0 w
  t : Blk w tb #[.int .i64 wd, .pointer q] 27
  u : Blk w ub #[.int .i64 wd, .slice la (itemsO o).length c] 31
  top : TopAt wd w (.pointer q) o
  its : ItemsAt w la (itemsO o)
  good : Good o
  cap : (itemsO o).length ≤ c
  tb0 : w0.heap.size ≤ tb
  ub0 : w0.heap.size ≤ ub
  ne : tb ≠ ub
theorem TE.next {w0 w w' : World} {tb ub : Nat} {wd : Int} {q la : Option Addr} {c : Nat} {o : Option Tr} (h : TE w0 tb ub wd q la c o w) (hb : Below w.heap.size w w') : TE w0 tb ub wd q la c o w' :=
  { h with below := h.below.trans (hb.mono h.below.size), t := h.t.below hb h.t.lt, u := h.u.below hb h.u.lt, top := TopAt.below hb h.top, its := h.its.below hb }
theorem Good.fine {o : Option Tr} (h : Good o) (hn : (itemsO o).length ≤ 100000) : FineO o := fun t e => by
  subst e
  exact ⟨h.wf, h.placed t rfl, fun x hx => ⟨(h.keys x hx).1, (h.keys x hx).2.1⟩, hn⟩
/-- Both are given another tree. -/
theorem TE.give {w0 w : World} {tb ub : Nat} {wd : Int} {q la q' la' : Option Addr} {c c' : Nat} {o o' : Option Tr} (h : TE w0 tb ub wd q la c o w) (hT : TopAt wd w (.pointer q') o') (hI : ItemsAt w la' (itemsO o')) (g : Good o') (hc : (itemsO o').length ≤ c') :
    TE w0 tb ub wd q' la' c' o' ((((w.setCell ⟨tb, 0, none⟩ (.int .i64 wd)).setCell ⟨tb, 1, none⟩ (.pointer q')).setCell ⟨ub, 0, none⟩ (.int .i64 wd)).setCell ⟨ub, 1, none⟩ (.slice la' (itemsO o').length c')) := by
  have hne := h.ne
  have t1 := h.t.set 0 (.int .i64 wd)
  have t2 : Blk ((w.setCell ⟨tb, 0, none⟩ (.int .i64 wd)).setCell ⟨tb, 1, none⟩ (.pointer q')) tb #[.int .i64 wd, .pointer q'] 27 := t1.set 1 (.pointer q')
  have u1 := h.u.setOther ⟨tb, 0, none⟩ (Ne.symm hne) (.int .i64 wd)
  have u2 := u1.setOther ⟨tb, 1, none⟩ (Ne.symm hne) (.pointer q')
  have u3 := u2.set 0 (.int .i64 wd)
  have u4 : Blk ((((w.setCell ⟨tb, 0, none⟩ (.int .i64 wd)).setCell ⟨tb, 1, none⟩ (.pointer q')).setCell ⟨ub, 0, none⟩ (.int .i64 wd)).setCell ⟨ub, 1, none⟩ (.slice la' (itemsO o').length c')) ub #[.int .i64 wd, .slice la' (itemsO o').length c'] 31 := u3.set 1 (.slice la' (itemsO o').length c')
  have t3 := t2.setOther ⟨ub, 0, none⟩ hne (.int .i64 wd)
  have t4 := t3.setOther ⟨ub, 1, none⟩ hne (.slice la' (itemsO o').length c')
  refine ⟨((((h.below.setCell (p := ⟨tb, 0, none⟩) h.tb0 _).setCell (p := ⟨tb, 1, none⟩) h.tb0 _).setCell (p := ⟨ub, 0, none⟩) h.ub0 _).setCell (p := ⟨ub, 1, none⟩) h.ub0 _), t4, u4, ?_, ?_, g, hc, h.tb0, h.ub0, hne⟩
  · exact (((hT.setAny h.t (by decide) 0 _).setAny t1 (by decide) 1 _).setAny u2 (by decide) 0 _).setAny u3 (by decide) 1 _
  · exact (((hI.setOff h.t (noStr_t _ _) 0 _).setOff t1 (noStr_t _ _) 1 _).setOff u2 (noStr_u _ _ _ _) 0 _).setOff u3 (noStr_u _ _ _ _) 1 _
/-- What Put says. -/
def putE (key val : Key) : Int := if 32 < key.length ∨ 4096 < val.length then 3 else 0
/-- The tree behind a step. -/
def stepO (key val : Key) (o : Option Tr) : Option Tr := if 32 < key.length ∨ 4096 < val.length then o else putO key val o
theorem stepO_good {key val : Key} {o : Option Tr} (g : Good o) : Good (stepO key val o) := by
  unfold stepO
  split
  · exact g
  · rename_i h
    exact (putO_spec key val o g (by omega) (by omega)).1
theorem stepO_len {key val : Key} {o : Option Tr} (g : Good o) : (itemsO (stepO key val o)).length ≤ (itemsO o).length + 1 := by
  unfold stepO
  split
  · omega
  · rename_i h
    rw [(putO_spec key val o g (by omega) (by omega)).2]
    have := putGo_len key val (itemsO o)
    cases (val == []) <;> omega
/-- Put of the program. -/
def PutE (wd : Int) (w : World) (E : Int) (o' : Option Tr) (e : Ending) (w' : World) : Prop := ∃ (wx : Int) (qx : Option Addr), e = .returned (.tuple #[.agg #[.int .i64 wx, .pointer qx], .int .i64 E]) ∧ (E = 0 → wx = wd ∧ TopAt wd w' (.pointer qx) o') ∧ Below w.heap.size w w'
theorem putE_any (wd : Int) (q : Option Addr) (o : Option Tr) (key val : Key) (w : World) (hw : okW wd) (hk : key.length ≤ maxLen) (hv : val.length ≤ maxLen) (g : Good o) (h : TopAt wd w (.pointer q) o) :
    Calls Tryd.prog 7 #[.agg #[.int .i64 wd, .pointer q], .string (str key), .string (str val)] w fun e w' => PutE wd w (putE key val) (stepO key val o) e w' := by
  by_cases hl : 32 < key.length ∨ 4096 < val.length
  · have e1 : putE key val = 3 := if_pos hl
    rw [e1]
    exact (put_long wd q key val w hk hv hl).mono fun e w' ⟨h1, h2⟩ => ⟨0, none, h1, (fun q => by omega), h2⟩
  · have e1 : putE key val = 0 := if_neg hl
    have e2 : stepO key val o = putO key val o := if_neg hl
    rw [e1, e2]
    exact (put_any wd q o key val w hw (by omega) (by omega) g h).mono fun e w' ⟨q', h1, h2, h3⟩ => ⟨wd, q', h1, (fun _ => ⟨rfl, h2⟩), h3⟩
/-- Put of the answer. -/
def RPutE (wd : Int) (w : World) (E : Int) (l' : List (Key × Key)) (e : Ending) (w' : World) : Prop := ∃ (wx : Int) (lx : Option Addr) (nx cx : Nat), e = .returned (.tuple #[.agg #[.int .i64 wx, .slice lx nx cx], .int .i64 E]) ∧ (E = 0 → wx = wd ∧ nx = l'.length ∧ ItemsAt w' lx l' ∧ l'.length ≤ cx) ∧ Below w.heap.size w w'
theorem rputE_any (wd : Int) (la : Option Addr) (c : Nat) (o : Option Tr) (key val : Key) (w : World) (hk : key.length ≤ maxLen) (hv : val.length ≤ maxLen) (g : Good o) (hn : (itemsO o).length ≤ 100000) (hi : ItemsAt w la (itemsO o)) :
    Calls Tryd.prog 8 #[.agg #[.int .i64 wd, .slice la (itemsO o).length c], .string (str key), .string (str val)] w fun e w' => RPutE wd w (putE key val) (itemsO (stepO key val o)) e w' := by
  by_cases hl : 32 < key.length ∨ 4096 < val.length
  · have e1 : putE key val = 3 := if_pos hl
    rw [e1]
    exact (rput_long wd la _ c key val w hk hv hl).mono fun e w' ⟨h1, h2⟩ => ⟨0, none, 0, 0, h1, (fun q => by omega), h2⟩
  · have e1 : putE key val = 0 := if_neg hl
    have e2 : stepO key val o = putO key val o := if_neg hl
    rw [e1, e2, (putO_spec key val o g (by omega) (by omega)).2]
    exact (rput_cap wd la c (itemsO o) key val w hn (by omega) (by omega) hi).mono fun e w' ⟨la', ⟨cap', h1, h4⟩, h2, h3, _⟩ => ⟨wd, la', _, cap', h1, (fun _ => ⟨rfl, rfl, h2, h4⟩), h3⟩
end Go.Proofs.YtfjkgglflmakhaaDoor
