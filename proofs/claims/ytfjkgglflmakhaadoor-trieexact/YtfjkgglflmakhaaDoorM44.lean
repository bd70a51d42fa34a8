/- Proofs and nodes of both trees, as the law asks for them. -/
import Derived.Test.YtfjkgglflmakhaaDoorZTE

namespace Go.Proofs.YtfjkgglflmakhaaDoor
open Go.RowKit
set_option linter.unusedVariables false
set_option linter.unusedSimpArgs false

/-- What Prove says. -/
def prP (wd : Int) (key : Key) (o : Option Tr) : Pf × Int := if 32 < key.length then (⟨false, [], [], []⟩, 3) else (proveO wd key o, 0)
/-- A proof with what is said of it. -/
def PrE (w : World) (P : Pf) (En : Int) (e : Ending) (w' : World) : Prop := ∃ la cap, e = .returned (.tuple #[.agg #[.slice la P.tu.length cap, .bool P.leaf, .string (str P.key), .string (str P.val)], .int .i64 En]) ∧ TurnsAt w' la P.tu ∧ Below w.heap.size w w'
theorem prP_len (wd : Int) (key : Key) (o : Option Tr) (g : Good o) : (prP wd key o).1.tu.length ≤ 1000 := by
  unfold prP
  split
  · simp
  · have := proveO_len wd key o g
    show (proveO wd key o).tu.length ≤ 1000
    omega
theorem prove_both (wd : Int) (q : Option Addr) (o : Option Tr) (key : Key) (w : World) (hk : key.length ≤ maxLen) (g : Good o) (h : TopAt wd w (.pointer q) o) :
    Calls Tryd.prog 16 #[.agg #[.int .i64 wd, .pointer q], .string (str key)] w fun e w' => PrE w (prP wd key o).1 (prP wd key o).2 e w' := by
  by_cases hl : 32 < key.length
  · have e1 : prP wd key o = (⟨false, [], [], []⟩, 3) := if_pos hl
    rw [e1]
    exact (prove_longZ wd q key w hl hk).mono fun e w' ⟨h1, h2⟩ => ⟨none, 0, h1, .inl rfl, h2⟩
  · have e1 : prP wd key o = (proveO wd key o, 0) := if_neg hl
    rw [e1]
    exact (prove_any wd q o key w (by omega) g h).mono fun e w' ⟨la, cap, h1, h2, h3⟩ => ⟨la, cap, h1, h2.turns, h3⟩
theorem rprove_both (wd : Int) (la : Option Addr) (c : Nat) (o : Option Tr) (key : Key) (w : World) (hw : okW wd) (hk : key.length ≤ maxLen) (g : Good o) (hn : (itemsO o).length ≤ 100000) (hc : (itemsO o).length ≤ c) (hi : ItemsAt w la (itemsO o)) :
    Calls Tryd.prog 17 #[.agg #[.int .i64 wd, .slice la (itemsO o).length c], .string (str key)] w fun e w' => PrE w (prP wd key o).1 (prP wd key o).2 e w' := by
  by_cases hl : 32 < key.length
  · have e1 : prP wd key o = (⟨false, [], [], []⟩, 3) := if_pos hl
    rw [e1]
    exact (rprove_long wd la _ c key w hl hk).mono fun e w' ⟨h1, h2⟩ => ⟨none, 0, h1, .inl rfl, h2⟩
  · have e1 : prP wd key o = (proveO wd key o, 0) := if_neg hl
    rw [e1]
    exact (rprove_any wd o la c key w hw (by omega) (g.fine hn) (by have := proveO_len wd key o g; omega) hc hi).mono fun e w' ⟨la, cap, h1, h2, h3⟩ => ⟨la, cap, h1, h2, h3⟩
theorem same_both (P : Pf) (la lb : Option Addr) (ca cb : Nat) (w : World) (hl : P.tu.length ≤ 1000) (h1 : TurnsAt w la P.tu) (h2 : TurnsAt w lb P.tu) :
    Calls Tryd.prog 18 #[.agg #[.slice la P.tu.length ca, .bool P.leaf, .string (str P.key), .string (str P.val)], .agg #[.slice lb P.tu.length cb, .bool P.leaf, .string (str P.key), .string (str P.val)]] w fun e w' => e = .returned (.bool true) ∧ Below w.heap.size w w' :=
  sameProof_same P la lb ca cb w (by omega) h1 h2
/-- A node's six cells. -/
theorem atP_form (wd : Int) (way : Key) (o : Option Tr) : ∃ (k : Int) (s1 s2 : ByteArray) (p l r En : Int), (atP wd way o).1 = .agg #[.int .i64 k, .string s1, .string s2, .int .i64 p, .int .u64 l, .int .u64 r] ∧ (atP wd way o).2 = En := by
  have hn : ∀ s : Option Tr, ∃ (k : Int) (s1 s2 : ByteArray) (p l r : Int), nodeV wd s = .agg #[.int .i64 k, .string s1, .string s2, .int .i64 p, .int .u64 l, .int .u64 r] := by
    intro s
    cases s with
    | none => exact ⟨_, _, _, _, _, _, rfl⟩
    | some t => cases t <;> exact ⟨_, _, _, _, _, _, rfl⟩
  have h : ∃ s, (atP wd way o).1 = nodeV wd s := by
    unfold atP
    split
    · split
      · exact ⟨none, rfl⟩
      · rename_i s _; exact ⟨s, rfl⟩
    · exact ⟨none, rfl⟩
  obtain ⟨s, hs⟩ := h
  obtain ⟨k, s1, s2, p, l, r, e⟩ := hn s
  exact ⟨k, s1, s2, p, l, r, _, hs.trans e, rfl⟩
/-- Another box is written. -/
theorem TE.other {w0 w : World} {tb ub xb : Nat} {wd : Int} {q la : Option Addr} {c : Nat} {o : Option Tr} {a : Int} {b : Option Addr} (h : TE w0 tb ub wd q la c o w) (kX : Blk w xb #[.int .i64 a, .pointer b] 27) (n1 : tb < xb) (n2 : ub < xb) (a' : Int) (b' : Option Addr) :
    TE w0 tb ub wd q la c o ((w.setCell ⟨xb, 0, none⟩ (.int .i64 a')).setCell ⟨xb, 1, none⟩ (.pointer b')) := by
  have x1 := kX.set 0 (.int .i64 a')
  have h0 := h.tb0
  refine { h with below := (h.below.setCell (p := ⟨xb, 0, none⟩) (by show _ ≤ xb; omega) _).setCell (p := ⟨xb, 1, none⟩) (by show _ ≤ xb; omega) _, t := (h.t.setOther ⟨xb, 0, none⟩ (by show tb ≠ xb; omega) _).setOther ⟨xb, 1, none⟩ (by show tb ≠ xb; omega) _, u := (h.u.setOther ⟨xb, 0, none⟩ (by show ub ≠ xb; omega) _).setOther ⟨xb, 1, none⟩ (by show ub ≠ xb; omega) _, top := (h.top.setAny kX (by decide) 0 _).setAny x1 (by decide) 1 _, its := (h.its.setOff kX (noStr_t _ _) 0 _).setOff x1 (noStr_t _ _) 1 _ }
end Go.Proofs.YtfjkgglflmakhaaDoor

namespace Go.Proofs.YtfjkgglflmakhaaDoor
open Go.RowKit
set_option linter.unusedVariables false
set_option linter.unusedSimpArgs false

def findBlk (n : Nat) : Code → Option Code
  | .block m c => if m = n then some (.block m c) else findBlk n c
  | .seq a b => match findBlk n a with
    | some c => some c
    | none => findBlk n b
  | .scope c => findBlk n c
  | .loop c => findBlk n c
  | .cond _ a b => match findBlk n a with
    | some c => some c
    | none => findBlk n b
  | _ => none
noncomputable def blk2 : Code := ((Tryd.f3.body.bind (findBlk 2)).getD .skip)

/-- Behind the two Puts of a step: the trees, the step, and what was there before. -/
structure Bh (w0 : World) (tb ub sb xb ob : Nat) (wd wx : Int) (q qx : Option Addr) (o o' : Option Tr) (S : Array Value) (w : World) : Prop where
  te : ∃ q2 la2 c2, TE w0 tb ub wd q2 la2 c2 o' w
  s : Blk w sb S 33
  x : Blk w xb #[.int .i64 wx, .pointer qx] 27
  old : Blk w ob #[.int .i64 wd, .pointer q] 27
  top : TopAt wd w (.pointer q) o
theorem bh_give {w0 w : World} {tb ub sb xb ob : Nat} {wd wx : Int} {q la qx ly : Option Addr} {c cy : Nat} {o o' : Option Tr} {S : Array Value} (T : TE w0 tb ub wd q la c o w) (kS : Blk w sb S 33) (kX : Blk w xb #[.int .i64 wx, .pointer qx] 27) (kO : Blk w ob #[.int .i64 wd, .pointer q] 27)
    (hT : TopAt wd w (.pointer qx) o') (hI : ItemsAt w ly (itemsO o')) (g : Good o') (hc : (itemsO o').length ≤ cy) (h1 : tb < sb) (h2 : ub < sb) (h3 : sb < xb) (h4 : xb < ob) :
    Bh w0 tb ub sb xb ob wd wx q qx o o' S ((((w.setCell ⟨tb, 0, none⟩ (.int .i64 wd)).setCell ⟨tb, 1, none⟩ (.pointer qx)).setCell ⟨ub, 0, none⟩ (.int .i64 wd)).setCell ⟨ub, 1, none⟩ (.slice ly (itemsO o').length cy)) := by
  have off : ∀ {b : Nat} {cs : Array Value} {t : TypeId}, Blk w b cs t → b ≠ tb → b ≠ ub → Blk ((((w.setCell ⟨tb, 0, none⟩ (.int .i64 wd)).setCell ⟨tb, 1, none⟩ (.pointer qx)).setCell ⟨ub, 0, none⟩ (.int .i64 wd)).setCell ⟨ub, 1, none⟩ (.slice ly (itemsO o').length cy)) b cs t := fun k n1 n2 =>
    (((k.setOther ⟨tb, 0, none⟩ n1 _).setOther ⟨tb, 1, none⟩ n1 _).setOther ⟨ub, 0, none⟩ n2 _).setOther ⟨ub, 1, none⟩ n2 _
  have hne := T.ne
  have t1 := T.t.set 0 (.int .i64 wd)
  have u1 := T.u.setOther ⟨tb, 0, none⟩ (Ne.symm hne) (.int .i64 wd)
  have u2 := u1.setOther ⟨tb, 1, none⟩ (Ne.symm hne) (.pointer qx)
  have u3 := u2.set 0 (.int .i64 wd)
  exact ⟨⟨_, _, _, T.give hT hI g hc⟩, off kS (by omega) (by omega), off kX (by omega) (by omega), off kO (by omega) (by omega), (((T.top.setAny T.t (by decide) 0 _).setAny t1 (by decide) 1 _).setAny u2 (by decide) 0 _).setAny u3 (by decide) 1 _⟩
theorem bel_alZ {w0 w : World} (h : Below w0.heap.size w0 w) (o : Obj) : Below w0.heap.size w0 (w.alloc o) := h.alloc h.size o
theorem bel_stZ {w0 w : World} {p : Addr} (h : Below w0.heap.size w0 w) (hp : w0.heap.size ≤ p.block) (v : Value) : Below w0.heap.size w0 (w.setCell p v) := h.setCell hp v
theorem te_start (w w2 : World) (wd : Int) (b : Below w.heap.size w w2) : TE w w2.heap.size (w2.heap.size + 1) wd none none 0 none ((w2.alloc (.cells #[.int .i64 wd, .pointer none] 27)).alloc (.cells #[.int .i64 wd, .slice none 0 0] 31)) := by
  have k2 := Blk.new (w2.alloc (.cells #[.int .i64 wd, .pointer none] 27)) #[.int .i64 wd, .slice none 0 0] 31
  rw [World.size_alloc] at k2
  exact ⟨b.trans ((((Below.refl _ _).alloc (Nat.le_refl _) _).alloc (by simp) _).mono b.size), (Blk.new w2 _ _).alloc _, k2, rfl, .inl rfl, Good.none, Nat.le_refl _, b.size, Nat.le_succ_of_le b.size, by omega⟩

end Go.Proofs.YtfjkgglflmakhaaDoor
