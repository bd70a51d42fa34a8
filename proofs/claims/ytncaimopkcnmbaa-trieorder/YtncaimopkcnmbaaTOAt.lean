/- TrieOrder under way: what is in memory. -/
import Derived.Test.YtncaimopkcnmbaaTItems2
import Derived.Test.YtncaimopkcnmbaaTGrow2
import Derived.Test.YtncaimopkcnmbaaTLight
import Derived.Test.YtncaimopkcnmbaaTOrd
import Derived.Test.YtncaimopkcnmbaaTPick
import Derived.Test.YtncaimopkcnmbaaTLate
namespace Go.Proofs.Ytncaimopkcnmbaa
open Go.RowKit
set_option linter.unusedVariables false

/-- A list of numbers in memory. -/
def IntsAt (w : World) (oa : Option Addr) (od : List Int) : Prop :=
  od = [] ∨ ∃ b off, oa = some ⟨b, off, none⟩ ∧ b < w.heap.size ∧ ∀ i x, od[i]? = some x → w.cell? ⟨b, off + i, none⟩ = some (.int .i64 x)
theorem IntsAt.below {w w' : World} {oa : Option Addr} {od : List Int} (h : IntsAt w oa od) (hb : Below w.heap.size w w') : IntsAt w' oa od := by
  rcases h with h | ⟨b, off, e, hl, hc⟩
  · exact .inl h
  · exact .inr ⟨b, off, e, Nat.lt_of_lt_of_le hl hb.size, fun i x hx => by rw [hb.cell (p := ⟨b, off + i, none⟩) hl]; exact hc i x hx⟩

theorem grow_good : ∀ (l : List (Key × Key)) (o : Option Tr), Good o → Good (l.foldl growO o)
  | [], o, h => h
  | x :: l, o, h => grow_good l _ (growO_good h x)
theorem growO_len {o : Option Tr} (h : Good o) (x : Key × Key) : (itemsO (growO o x)).length ≤ (itemsO o).length + 1 := by
  unfold growO
  split
  · rename_i hs
    simp only [short, Bool.and_eq_true, decide_eq_true_eq] at hs
    rw [(putO_spec x.1 x.2 o h hs.1 hs.2).2]
    have := putGo_len x.1 x.2 (itemsO o)
    cases (x.2 == []) <;> omega
  · omega
theorem grow_len : ∀ (l : List (Key × Key)) (o : Option Tr), Good o → (itemsO (l.foldl growO o)).length ≤ (itemsO o).length + l.length
  | [], o, h => by simp
  | x :: l, o, h => by
    have h1 := grow_len l _ (growO_good h x)
    have h2 := growO_len h x
    simp only [List.foldl_cons, List.length_cons]
    omega

/-- The three trees. -/
structure OAt (w0 : World) (bt bv : Nat) (wd : Int) (q qv ua : Option Addr) (uc : Nat) (o v : Option Tr) (w : World) : Prop where
  below : Below w0.heap.size w0 w
  lo : w0.heap.size ≤ bt
  ap : bt + 1 < bv
  t : Blk w bt #[.int .i64 wd, .pointer q] 28
  u : Blk w (bt + 1) #[.int .i64 wd, .slice ua (itemsO o).length uc] 30
  vb : Blk w bv #[.int .i64 wd, .pointer qv] 28
  topT : TopAt wd w (.pointer q) o
  topV : TopAt wd w (.pointer qv) v
  its : ItemsAt w ua (itemsO o)
theorem OAt.next {w0 w w' : World} {bt bv : Nat} {wd : Int} {q qv ua : Option Addr} {uc : Nat} {o v : Option Tr} (h : OAt w0 bt bv wd q qv ua uc o v w) (hb : Below w.heap.size w w') : OAt w0 bt bv wd q qv ua uc o v w' :=
  ⟨h.below.trans (hb.mono h.below.size), h.lo, h.ap, h.t.below hb h.t.lt, h.u.below hb h.u.lt, h.vb.below hb h.vb.lt, TopAt.below hb h.topT, TopAt.below hb h.topV, h.its.below hb⟩
theorem OAt.set {w0 w : World} {bt bv : Nat} {wd : Int} {q qv ua qn : Option Addr} {uc : Nat} {o v vn : Option Tr} (h : OAt w0 bt bv wd q qv ua uc o v w) (hT : TopAt wd w (.pointer qn) vn) :
    OAt w0 bt bv wd q qn ua uc o vn ((w.setCell ⟨bv, 0, none⟩ (.int .i64 wd)).setCell ⟨bv, 1, none⟩ (.pointer qn)) := by
  have h1 := h.lo
  have h2 := h.ap
  have k1 := h.vb.set 0 (.int .i64 wd)
  have k2 := k1.set 1 (.pointer qn)
  have n1 : bt ≠ bv := by omega
  have n2 : bt + 1 ≠ bv := by omega
  exact ⟨(h.below.setCell (p := ⟨bv, 0, none⟩) (by show _ ≤ bv; omega) _).setCell (p := ⟨bv, 1, none⟩) (by show _ ≤ bv; omega) _, h1, h2, (h.t.setOther ⟨bv, 0, none⟩ n1 _).setOther ⟨bv, 1, none⟩ n1 _, (h.u.setOther ⟨bv, 0, none⟩ n2 _).setOther ⟨bv, 1, none⟩ n2 _, k2,
    (h.topT.setAny h.vb (by decide) 0 _).setAny k1 (by decide) 1 _, (hT.setAny h.vb (by decide) 0 _).setAny k1 (by decide) 1 _, (h.its.setOff h.vb (noStr_t _ _) 0 _).setOff k1 (noStr_t _ _) 1 _⟩
theorem OAt.start {w w2 w3 : World} {wd : Int} {q ua : Option Addr} {uc : Nat} {o : Option Tr} (b2 : Below w.heap.size w w2) (hT : TopAt wd w2 (.pointer q) o) (hI : ItemsAt w2 ua (itemsO o))
    (b3 : Below ((w2.alloc (.cells #[.int .i64 wd, .pointer q] 28)).alloc (.cells #[.int .i64 wd, .slice ua (itemsO o).length uc] 30)).heap.size ((w2.alloc (.cells #[.int .i64 wd, .pointer q] 28)).alloc (.cells #[.int .i64 wd, .slice ua (itemsO o).length uc] 30)) w3) :
    OAt w w2.heap.size w3.heap.size wd q none ua uc o none (w3.alloc (.cells #[.int .i64 wd, .pointer none] 28)) := by
  have bA : Below w2.heap.size w2 ((w2.alloc (.cells #[.int .i64 wd, .pointer q] 28)).alloc (.cells #[.int .i64 wd, .slice ua (itemsO o).length uc] 30)) := ((Below.refl _ _).alloc (Nat.le_refl _) _).alloc (by simp) _
  have kt := (Blk.new w2 #[.int .i64 wd, .pointer q] 28).alloc (.cells #[.int .i64 wd, .slice ua (itemsO o).length uc] 30)
  have ku := Blk.new (w2.alloc (.cells #[.int .i64 wd, .pointer q] 28)) #[.int .i64 wd, .slice ua (itemsO o).length uc] 30
  rw [World.size_alloc] at ku
  have hs := b3.size
  simp only [World.size_alloc] at hs
  have b4 : Below w3.heap.size w3 (w3.alloc (.cells #[.int .i64 wd, .pointer none] 28)) := (Below.refl _ _).alloc (Nat.le_refl _) _
  have B3 := bA.trans (b3.mono bA.size)
  have B4 := B3.trans (b4.mono B3.size)
  have jt := kt.below b3 kt.lt
  have ju := ku.below b3 ku.lt
  exact ⟨b2.trans (B4.mono b2.size), b2.size, by omega, jt.below b4 jt.lt, ju.below b4 ju.lt, Blk.new _ _ _, TopAt.below B4 hT, rfl, hI.below B4⟩
theorem OAt.facts {w0 w : World} {bt bv : Nat} {wd : Int} {q qv ua : Option Addr} {uc : Nat} {o v : Option Tr} (h : OAt w0 bt bv wd q qv ua uc o v w) :
    w.cell? ⟨bv, 0, none⟩ = some (.int .i64 wd) ∧ w.cell? ⟨bv, 1, none⟩ = some (.pointer qv) ∧ w.cell? ⟨bt + 1, 0, none⟩ = some (.int .i64 wd) ∧ w.cell? ⟨bt + 1, 1, none⟩ = some (.slice ua (itemsO o).length uc) :=
  ⟨(h.vb.cell 0).trans rfl, (h.vb.cell 1).trans rfl, (h.u.cell 0).trans rfl, (h.u.cell 1).trans rfl⟩
theorem OAt.held {w0 w : World} {bt bv : Nat} {wd : Int} {q qv ua : Option Addr} {uc : Nat} {o v : Option Tr} (h : OAt w0 bt bv wd q qv ua uc o v w) :
    (∀ w', Below w.heap.size w w' → w'.cell? ⟨bv, 0, none⟩ = some (.int .i64 wd)) ∧ (∀ w', Below w.heap.size w w' → w'.cell? ⟨bv, 1, none⟩ = some (.pointer qv)) ∧ (∀ w', Below w.heap.size w w' → w'.cell? ⟨bt + 1, 1, none⟩ = some (.slice ua (itemsO o).length uc)) :=
  ⟨fun w' hb => (h.next hb).facts.1, fun w' hb => (h.next hb).facts.2.1, fun w' hb => (h.next hb).facts.2.2.2⟩
theorem OAt.some {w0 w : World} {bt bv : Nat} {wd : Int} {q qv ua : Option Addr} {uc : Nat} {o v : Option Tr} (h : OAt w0 bt bv wd q qv ua uc o v w) (hz : (itemsO o).length > 0) : ∃ ub uo, ua = Option.some ⟨ub, uo, none⟩ := by
  rcases h.its with e | ⟨b, off, e, _⟩
  · rw [e] at hz; simp at hz
  · exact ⟨b, off, e⟩
theorem OAt.item {w0 w : World} {bt bv : Nat} {wd : Int} {q qv : Option Addr} {ub uo uc : Nat} {o v : Option Tr} (h : OAt w0 bt bv wd q qv (Option.some ⟨ub, uo, none⟩) uc o v w) {k : Nat} {z : Key × Key} (hz : (itemsO o)[k]? = Option.some z) :
    (∀ w', Below w.heap.size w w' → w'.cell? ⟨ub, uo + k * 2, none⟩ = Option.some (.string (str z.1))) ∧ (∀ w', Below w.heap.size w w' → w'.cell? ⟨ub, uo + k * 2 + 1, none⟩ = Option.some (.string (str z.2))) := by
  have key : ∀ w', Below w.heap.size w w' → w'.cell? ⟨ub, uo + k * 2, none⟩ = Option.some (.string (str z.1)) ∧ w'.cell? ⟨ub, uo + k * 2 + 1, none⟩ = Option.some (.string (str z.2)) := by
    intro w' hb
    rcases h.its.below hb with e | ⟨b, off, e, _, hc⟩
    · rw [e] at hz; simp at hz
    · injection e with e
      injection e with e1 e2
      subst e1; subst e2
      exact hc k z hz
  exact ⟨fun w' hb => (key w' hb).1, fun w' hb => (key w' hb).2⟩
end Go.Proofs.Ytncaimopkcnmbaa
