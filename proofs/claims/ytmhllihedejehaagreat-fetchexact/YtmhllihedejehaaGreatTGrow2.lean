/- grown. -/
import Derived.Test.YtmhllihedejehaaGreatTGrow
namespace Go.Proofs.YtmhllihedejehaaGreat
open Go.RowKit
set_option linter.unusedVariables false
set_option linter.unusedSimpArgs false

/-- grown under way. -/
structure GAt (w0 : World) (b6 b7 : Nat) (wd : Int) (q la : Option Addr) (cap : Nat) (o : Option Tr) (w : World) : Prop where
  below : Below w0.heap.size w0 w
  r4 : Blk w w0.heap.size #[.int .i64 0, .pointer none] 34
  r5 : Blk w (w0.heap.size + 1) #[.int .i64 0, .slice none 0 0] 36
  t : Blk w b6 #[.int .i64 wd, .pointer q] 34
  u : Blk w b7 #[.int .i64 wd, .slice la (itemsO o).length cap] 36
  top : TopAt wd w (.pointer q) o
  its : ItemsAt w la (itemsO o)
  fr : Fresh w0.heap.size la (itemsO o)
theorem GAt.start {w w1 : World} (wd : Int) (b1 : Below ((w.alloc (.cells #[.int .i64 0, .pointer none] 34)).alloc (.cells #[.int .i64 0, .slice none 0 0] 36)).heap.size ((w.alloc (.cells #[.int .i64 0, .pointer none] 34)).alloc (.cells #[.int .i64 0, .slice none 0 0] 36)) w1) :
    GAt w w1.heap.size (w1.heap.size + 1) wd none none 0 none ((w1.alloc (.cells #[.int .i64 wd, .pointer none] 34)).alloc (.cells #[.int .i64 wd, .slice none 0 0] 36)) := by
  have bA : Below w.heap.size w ((w.alloc (.cells #[.int .i64 0, .pointer none] 34)).alloc (.cells #[.int .i64 0, .slice none 0 0] 36)) := ((Below.refl _ _).alloc (Nat.le_refl _) _).alloc (by simp) _
  have B1 := bA.trans (b1.mono bA.size)
  have k4 := (Blk.new w #[.int .i64 0, .pointer none] 34).alloc (.cells #[.int .i64 0, .slice none 0 0] 36)
  have k5 := Blk.new (w.alloc (.cells #[.int .i64 0, .pointer none] 34)) #[.int .i64 0, .slice none 0 0] 36
  rw [World.size_alloc] at k5
  have b2 : Below w1.heap.size w1 ((w1.alloc (.cells #[.int .i64 wd, .pointer none] 34)).alloc (.cells #[.int .i64 wd, .slice none 0 0] 36)) := ((Below.refl _ _).alloc (Nat.le_refl _) _).alloc (by simp) _
  have j4 := k4.below b1 k4.lt
  have j5 := k5.below b1 k5.lt
  have k7 := Blk.new (w1.alloc (.cells #[.int .i64 wd, .pointer none] 34)) #[.int .i64 wd, .slice none 0 0] 36
  rw [World.size_alloc] at k7
  exact ⟨B1.trans (b2.mono B1.size), j4.below b2 j4.lt, j5.below b2 j5.lt, (Blk.new w1 _ _).alloc _, k7, rfl, .inl rfl, .inl rfl⟩
theorem GAt.next {w0 w w' : World} {b6 b7 : Nat} {wd : Int} {q la : Option Addr} {cap : Nat} {o : Option Tr} (h : GAt w0 b6 b7 wd q la cap o w) (hb : Below w.heap.size w w') : GAt w0 b6 b7 wd q la cap o w' :=
  ⟨h.below.trans (hb.mono h.below.size), h.r4.below hb h.r4.lt, h.r5.below hb h.r5.lt, h.t.below hb h.t.lt, h.u.below hb h.u.lt, TopAt.below hb h.top, h.its.below hb, h.fr⟩

theorem ItemsAt.setOff {w : World} {la : Option Addr} {l : List (Key × Key)} {c : Nat} {cs : Array Value} {t : TypeId} (h : ItemsAt w la l) (hc : Blk w c cs t) (hn : ∀ (j : Nat) (s : ByteArray), cs[j]? ≠ some (.string s)) (i : Nat) (u : Value) : ItemsAt (w.setCell ⟨c, i, none⟩ u) la l := by
  rcases h with h | ⟨b, off, e, hl, hx⟩
  · exact .inl h
  · cases l with
    | nil => exact .inl rfl
    | cons y r =>
      have hbc : c ≠ b := by
        intro e2
        subst e2
        have := (hx 0 y rfl).1
        rw [hc.cell] at this
        exact hn _ _ this
      refine .inr ⟨b, off, e, by rw [size_setCell]; exact hl, fun j x hj => ?_⟩
      obtain ⟨h1, h2⟩ := hx j x hj
      exact ⟨by rw [cell_off ⟨c, i, none⟩ ⟨b, off + j * 2, none⟩ u hbc]; exact h1, by rw [cell_off ⟨c, i, none⟩ ⟨b, off + j * 2 + 1, none⟩ u hbc]; exact h2⟩
theorem NodeAt.setAny {wd : Int} {w : World} {c : Nat} {cs : Array Value} {T : TypeId} (hc : Blk w c cs T) (hT : 103 ≠ T) (i : Nat) (u : Value) : ∀ {t : Tr} {b : Nat}, NodeAt wd w b t → NodeAt wd (w.setCell ⟨c, i, none⟩ u) b t
  | .leaf k v, b, h => Blk.setOther h _ (fun e => by
      have e : b = c := e
      subst e
      have := Option.some.inj (h.symm.trans hc)
      injection this with _ h2 _
      exact absurd h2 hT) _
  | .fork p l r, b, h => by
    obtain ⟨bl, br, h, h1, h2⟩ := h
    refine ⟨bl, br, h.setOther _ (fun e => ?_) _, NodeAt.setAny hc hT i u h1, NodeAt.setAny hc hT i u h2⟩
    have e : b = c := e
    subst e
    have := Option.some.inj (h.symm.trans hc)
    injection this with _ h2 _
    exact absurd h2 hT
theorem TopAt.setAny {wd : Int} {w : World} {c : Nat} {cs : Array Value} {T : TypeId} {v : Value} {o : Option Tr} (h : TopAt wd w v o) (hc : Blk w c cs T) (hT : 103 ≠ T) (i : Nat) (u : Value) : TopAt wd (w.setCell ⟨c, i, none⟩ u) v o := by
  cases o with
  | none => exact h
  | some t => obtain ⟨b, e, h⟩ := h; exact ⟨b, e, NodeAt.setAny hc hT i u h⟩
theorem noStr_t (a : Int) (q : Option Addr) : ∀ (j : Nat) (s : ByteArray), (#[Value.int .i64 a, .pointer q])[j]? ≠ some (.string s) := by
  intro j s h
  rcases j with _ | _ | j <;> simp at h
theorem noStr_u (a : Int) (q : Option Addr) (n c : Nat) : ∀ (j : Nat) (s : ByteArray), (#[Value.int .i64 a, .slice q n c])[j]? ≠ some (.string s) := by
  intro j s h
  rcases j with _ | _ | j <;> simp at h

/-- A tree is given to the variable. -/
theorem GAt.setT {w0 w : World} {b6 : Nat} {wd : Int} {q q' la : Option Addr} {cap : Nat} {o o' : Option Tr} (h : GAt w0 b6 (b6 + 1) wd q la cap o w) (h6 : w0.heap.size + 2 ≤ b6) (hT : TopAt wd w (.pointer q') o') :
    Below w0.heap.size w0 ((w.setCell ⟨b6, 0, none⟩ (.int .i64 wd)).setCell ⟨b6, 1, none⟩ (.pointer q')) ∧ Blk ((w.setCell ⟨b6, 0, none⟩ (.int .i64 wd)).setCell ⟨b6, 1, none⟩ (.pointer q')) w0.heap.size #[.int .i64 0, .pointer none] 34 ∧ Blk ((w.setCell ⟨b6, 0, none⟩ (.int .i64 wd)).setCell ⟨b6, 1, none⟩ (.pointer q')) (w0.heap.size + 1) #[.int .i64 0, .slice none 0 0] 36 ∧ Blk ((w.setCell ⟨b6, 0, none⟩ (.int .i64 wd)).setCell ⟨b6, 1, none⟩ (.pointer q')) b6 #[.int .i64 wd, .pointer q'] 34 ∧ Blk ((w.setCell ⟨b6, 0, none⟩ (.int .i64 wd)).setCell ⟨b6, 1, none⟩ (.pointer q')) (b6 + 1) #[.int .i64 wd, .slice la (itemsO o).length cap] 36 ∧ TopAt wd ((w.setCell ⟨b6, 0, none⟩ (.int .i64 wd)).setCell ⟨b6, 1, none⟩ (.pointer q')) (.pointer q') o' ∧ ItemsAt ((w.setCell ⟨b6, 0, none⟩ (.int .i64 wd)).setCell ⟨b6, 1, none⟩ (.pointer q')) la (itemsO o) := by
  have k1 := h.t.set 0 (.int .i64 wd)
  refine ⟨(h.below.setCell (p := ⟨b6, 0, none⟩) (by simp; omega) _).setCell (p := ⟨b6, 1, none⟩) (by simp; omega) _, (h.r4.setOther _ (by show _ ≠ b6; omega) _).setOther _ (by show _ ≠ b6; omega) _, (h.r5.setOther _ (by show _ ≠ b6; omega) _).setOther _ (by show _ ≠ b6; omega) _, k1.set 1 (.pointer q'), (h.u.setOther _ (by show _ ≠ b6; omega) _).setOther _ (by show _ ≠ b6; omega) _, (hT.setOff h.t 0 _).setOff k1 1 _, (h.its.setOff h.t (noStr_t _ _) 0 _).setOff k1 (noStr_t _ _) 1 _⟩

theorem bel_al {wB w : World} (h : Below wB.heap.size wB w) (o : Obj) : Below wB.heap.size wB (w.alloc o) := h.alloc h.size o
theorem bel_st {wB w : World} {p : Addr} (h : Below wB.heap.size wB w) (hp : wB.heap.size ≤ p.block) (v : Value) : Below wB.heap.size wB (w.setCell p v) := h.setCell hp v
theorem own1 {w w' : World} {cs : Array Value} {t : TypeId} (hb : Below (w.alloc (.cells cs t)).drew.heap.size (w.alloc (.cells cs t)).drew w') : Blk w' w.heap.size cs t :=
  (Blk.new w cs t).drew.below hb (by show _ < (w.alloc (.cells cs t)).heap.size; simp)
theorem PutIn.early {wr w3 : World} {wd : Int} {o : Option Tr} {q : Option Addr} (h : TopAt wd w3 (.pointer q) o) (hb : Below wr.heap.size wr w3) (hk : Blk w3 wr.heap.size #[.int .i64 0, .pointer none] 34) :
    PutIn wr wd o (.pointer (some ⟨wr.heap.size, 0, none⟩)) ((w3.setCell ⟨wr.heap.size, 0, none⟩ (.int .i64 wd)).setCell ⟨wr.heap.size, 1, none⟩ (.pointer q)) := by
  have k1 := hk.set 0 (.int .i64 wd)
  exact ⟨_, q, rfl, Nat.le_refl _, k1.set 1 (.pointer q), (h.setOff hk 0 _).setOff k1 1 _, (hb.setCell (p := ⟨wr.heap.size, 0, none⟩) (Nat.le_refl _) _).setCell (p := ⟨wr.heap.size, 1, none⟩) (Nat.le_refl _) _⟩

/-- What the answer's Put leaves in a variable of its own. -/
def RIn (wy : World) (wd : Int) (R : List (Key × Key)) (yv : Value) (wx : World) : Prop := ∃ b sa sc, yv = .pointer (some ⟨b, 0, none⟩) ∧ wy.heap.size ≤ b ∧ Blk wx b #[.int .i64 wd, .slice sa R.length sc] 36 ∧ ItemsAt wx sa R ∧ Below wy.heap.size wy wx ∧ Fresh wy.heap.size sa R
theorem RIn.late {wr w3 : World} {wd : Int} {R : List (Key × Key)} {sa : Option Addr} {sc : Nat} (h : ItemsAt w3 sa R) (hb : Below wr.heap.size wr w3) (hf : Fresh wr.heap.size sa R) :
    RIn wr wd R (.pointer (some ⟨w3.heap.size, 0, none⟩)) (w3.alloc (.cells #[.int .i64 wd, .slice sa R.length sc] 36)) :=
  ⟨_, sa, sc, rfl, hb.size, Blk.new _ _ _, h.below ((Below.refl _ _).alloc (Nat.le_refl _) _), hb.alloc hb.size _, hf⟩
theorem RIn.early {wr w3 : World} {wd : Int} {R : List (Key × Key)} {sa : Option Addr} {sc : Nat} (h : ItemsAt w3 sa R) (hb : Below wr.heap.size wr w3) (hk : Blk w3 wr.heap.size #[.int .i64 0, .slice none 0 0] 36) (hf : Fresh wr.heap.size sa R) :
    RIn wr wd R (.pointer (some ⟨wr.heap.size, 0, none⟩)) ((w3.setCell ⟨wr.heap.size, 0, none⟩ (.int .i64 wd)).setCell ⟨wr.heap.size, 1, none⟩ (.slice sa R.length sc)) := by
  have k1 := hk.set 0 (.int .i64 wd)
  exact ⟨_, sa, sc, rfl, Nat.le_refl _, k1.set 1 (.slice sa R.length sc), (h.setOff hk (noStr_u _ _ _ _) 0 _).setOff k1 (noStr_u _ _ _ _) 1 _, (hb.setCell (p := ⟨wr.heap.size, 0, none⟩) (Nat.le_refl _) _).setCell (p := ⟨wr.heap.size, 1, none⟩) (Nat.le_refl _) _, hf⟩

set_option maxHeartbeats 6400000 in
theorem grown_own (wd : Int) (la : Option Addr) (cap : Nat) (l : List (Key × Key)) (w : World) (hw : okW wd) (hn : l.length ≤ 1024) (hk : ∀ x ∈ l, x.1.length ≤ maxLen ∧ x.2.length ≤ maxLen) (hi0 : ItemsAt w la l) :
    Calls Tryz.prog 6 #[.int .i64 wd, .slice la l.length cap] w fun e w' => ∃ q la', (∃ cap', e = .returned (.tuple #[.agg #[.int .i64 wd, .pointer q], .agg #[.int .i64 wd, .slice la' (itemsO (l.foldl growO none)).length cap']])) ∧ TopAt wd w' (.pointer q) (l.foldl growO none) ∧ ItemsAt w' la' (itemsO (l.foldl growO none)) ∧ Below w.heap.size w w' ∧ Fresh w.heap.size la' (itemsO (l.foldl growO none)) := by
  go_enter Tryz.func6, Tryz.ntmps6
  go_wp2_with fail
  refine (new_any wd _).mono ?_
  rintro e w1 ⟨rfl, b1⟩
  go_wp2_with fail
  have G0 := GAt.start (w := w) (w1 := w1) wd b1
  have hsz : w.heap.size + 2 ≤ w1.heap.size := by have := b1.size; simp at this; omega
  generalize hb6 : w1.heap.size = b6 at *
  generalize (w1.alloc (.cells #[.int .i64 wd, .pointer none] 34)).alloc (.cells #[.int .i64 wd, .slice none 0 0] 36) = wA at *
  clear b1 hb6
  go_loopw [8] (fun iv wv => ∃ (i : Nat) (o : Option Tr) (q sa : Option Addr) (sc : Nat), i ≤ l.length ∧ iv = .int .i64 i ∧ Hid (l.foldl growO none = (l.drop i).foldl growO o) ∧ Good o ∧ (itemsO o).length ≤ i ∧ GAt w b6 (b6 + 1) wd q sa sc o wv) (fun iv _ => l.length - (intOf iv).toNat)
  case atStart => exact ⟨0, none, none, none, 0, Nat.zero_le _, rfl, rfl, Good.none, by simp [itemsO], G0⟩
  case round =>
    obtain ⟨i, o, q, sa, sc, hi, rfl, HF, hg, hlen, G⟩ := hrel
    clear G0
    have t0 := (G.t.cell 0).trans rfl
    have t1 := (G.t.cell 1).trans rfl
    have u0 := (G.u.cell 0).trans rfl
    have u1 := (G.u.cell 1).trans rfl
    have zt := G.t.lt
    have zu := G.u.lt
    by_cases hlt : i < l.length
    · have hlt' : (i : Int) < (l.length : Int) := by omega
      rcases id hi0 with h0 | ⟨b1, o1, e1, zl, c1⟩
      · rw [h0] at hlt; simp at hlt
      subst e1
      have hdrop := List.drop_eq_getElem_cons hlt
      have hget := List.getElem?_eq_getElem hlt
      have hkx := hk _ (List.getElem_mem hlt)
      obtain ⟨x, ex⟩ : ∃ x, l[i] = x := ⟨_, rfl⟩
      rw [ex] at hdrop hget hkx
      clear ex
      have HF1 : Hid (l.foldl growO none = (l.drop (i + 1)).foldl growO (growO o x)) := by show _ = _; rw [HF.out, hdrop]; rfl
      have A1 : ∀ wz, Below w.heap.size w wz → wz.cell? ⟨b1, o1 + i * 2, none⟩ = some (.string (str x.1)) := fun wz hb => by rw [hb.cell (p := ⟨b1, o1 + i * 2, none⟩) zl]; exact (c1 i _ hget).1
      have A2 : ∀ wz, Below w.heap.size w wz → wz.cell? ⟨b1, o1 + i * 2 + 1, none⟩ = some (.string (str x.2)) := fun wz hb => by rw [hb.cell (p := ⟨b1, o1 + i * 2 + 1, none⟩) zl]; exact (c1 i _ hget).2
      clear HF hdrop hget c1 hi0
      obtain ⟨xk, xv⟩ := x
      simp only at A1 A2 hkx
      by_cases hs : short (xk, xv) = true
      · have hs2 := hs
        simp only [short, Bool.and_eq_true, decide_eq_true_eq] at hs2
        obtain ⟨hs3, hs4⟩ := hs2
        have hgr : growO o (xk, xv) = putO xk xv o := by unfold growO; rw [if_pos hs]
        obtain ⟨gp, ip⟩ := putO_spec xk xv o hg hs3 hs4
        have KP : ∀ w', Below wr.heap.size wr w' → Calls Tryz.prog 23 #[.agg #[.int .i64 wd, .pointer q], .string (str xk), .string (str xv)] w' fun e w'' => ∃ q', e = .returned (.tuple #[.agg #[.int .i64 wd, .pointer q'], .int .i64 0]) ∧ TopAt wd w'' (.pointer q') (putO xk xv o) ∧ Below w'.heap.size w' w'' := fun w' hb => put_any wd q o xk xv w' hw hs3 hs4 hg (TopAt.below hb G.top)
        have T0 : ∀ w', Below wr.heap.size wr w' → w'.cell? ⟨b6, 0, none⟩ = some (.int .i64 wd) := fun w' h => by rw [h.cell (p := ⟨b6, 0, none⟩) zt]; exact t0
        have T1 : ∀ w', Below wr.heap.size wr w' → w'.cell? ⟨b6, 1, none⟩ = some (.pointer q) := fun w' h => by rw [h.cell (p := ⟨b6, 1, none⟩) zt]; exact t1
        have C1 : ∀ w', Below wr.heap.size wr w' → w'.cell? ⟨b1, o1 + i * 2, none⟩ = some (.string (str xk)) := fun w' h => A1 w' (G.below.trans (h.mono G.below.size))
        have C2 : ∀ w', Below wr.heap.size wr w' → w'.cell? ⟨b1, o1 + i * 2 + 1, none⟩ = some (.string (str xv)) := fun w' h => A2 w' (G.below.trans (h.mono G.below.size))
        have bw : Below wr.heap.size wr wr := Below.refl _ _
        have HG := show Hid (GAt _ _ _ _ _ _ _ _ _) from G
        have HP := show Hid (_ = _) from ip
        have HR := show Hid (_ = _) from hgr
        have AA := show Hid (_ ∧ _) from ⟨A1, A2⟩
        clear G t0 t1 u0 u1 A1 A2 ip hgr hs hk hkx
        go_upto_region 6 with fail
        go_cut [9, 10] (fun yv ev wx => ev = .int .i64 0 ∧ PutIn wr wd (putO xk xv o) yv wx)
        case first =>
          go_region_held3 (fun w' => Below wr.heap.size wr w') (repeat (first | exact bw.drew | exact hNext | assumption | refine Below.drew ?_ | exact bw | refine bel_al ?_ _ | refine bel_st ?_ ?_ _ | exact Nat.le_refl _ | exact hNext.size))
            (first
            | (go_at_call 23
               refine (KP _ (by assumption)).mono ?_
               rintro e w3 ⟨q', rfl, hT, b3⟩
               have hNext : Below wr.heap.size wr w3 := Below.trans (by assumption) (b3.mono (Below.size (by assumption)))
               (try have ow := own1 b3)
               (try have oc0 := (ow.cell 0).trans rfl)
               (try have oc1 := (ow.cell 1).trans rfl)
               (try have of0 := ow.frozen 0)
               (try have of1 := ow.frozen 1)
               (try have ol := ow.lt)))
          all_goals
            go_wp2
            go_meet
            case rel => first | exact ⟨rfl, PutIn.late hT hNext⟩ | exact ⟨rfl, PutIn.early hT hNext ow⟩
        case rest =>
          obtain ⟨rfl, b9, q', rfl, hb9, k9, hT, bx⟩ := hcut
          generalize wc = wx at *
          have GX := HG.out.next bx
          obtain ⟨v1, v2, v3, v4, v5, v6, v7⟩ := GX.setT (q' := q') hsz hT
          have n0 := (k9.cell 0).trans rfl
          have n1 := (k9.cell 1).trans rfl
          have x0 := (GX.t.cell 0).trans rfl
          have x1 := (GX.t.cell 1).trans rfl
          have xf0 := GX.t.frozen 0
          have xf1 := GX.t.frozen 1
          have hne9 : b9 ≠ b6 := by omega
          have zx := GX.t.lt
          clear KP T0 T1 C1 C2
          go_upto_region 9 with fail
          have hlen2 : (itemsO o).length ≤ 100000 := by omega
          have H9 := show Hid (_ ≠ _) from hne9
          generalize (wx.setCell ⟨b6, 0, none⟩ (.int .i64 wd)).setCell ⟨b6, 1, none⟩ (.pointer q') = wy at *
          clear n0 n1 x0 x1 xf0 xf1 hne9 zx k9 hT GX HG bx hb9 zt zu bw
          have u0 := (v5.cell 0).trans rfl
          have u1 := (v5.cell 1).trans rfl
          have zu := v5.lt
          obtain ⟨A1, A2⟩ := AA.out
          have KR : ∀ w', Below wy.heap.size wy w' → Calls Tryz.prog 24 #[.agg #[.int .i64 wd, .slice sa (itemsO o).length sc], .string (str xk), .string (str xv)] w' fun e w'' => ∃ la', (∃ cap', e = .returned (.tuple #[.agg #[.int .i64 wd, .slice la' (itemsO (putO xk xv o)).length cap'], .int .i64 0])) ∧ ItemsAt w'' la' (itemsO (putO xk xv o)) ∧ Below w'.heap.size w' w'' ∧ Fresh w'.heap.size la' (itemsO (putO xk xv o)) := fun w' hb => by
            rw [HP.out]
            exact rput_own wd sa sc (itemsO o) xk xv w' hlen2 hs3 hs4 (v7.below hb)
          have T0 : ∀ w', Below wy.heap.size wy w' → w'.cell? ⟨b6 + 1, 0, none⟩ = some (.int .i64 wd) := fun w' h => by rw [h.cell (p := ⟨b6 + 1, 0, none⟩) zu]; exact u0
          have T1 : ∀ w', Below wy.heap.size wy w' → w'.cell? ⟨b6 + 1, 1, none⟩ = some (.slice sa (itemsO o).length sc) := fun w' h => by rw [h.cell (p := ⟨b6 + 1, 1, none⟩) zu]; exact u1
          have C1 : ∀ w', Below wy.heap.size wy w' → w'.cell? ⟨b1, o1 + i * 2, none⟩ = some (.string (str xk)) := fun w' h => A1 w' (v1.trans (h.mono v1.size))
          have C2 : ∀ w', Below wy.heap.size wy w' → w'.cell? ⟨b1, o1 + i * 2 + 1, none⟩ = some (.string (str xv)) := fun w' h => A2 w' (v1.trans (h.mono v1.size))
          have bw : Below wy.heap.size wy wy := Below.refl _ _
          have V := show Hid (_ ∧ _ ∧ _ ∧ _ ∧ _ ∧ _) from ⟨v1, v2, v3, v4, v5, v6⟩
          have HL : Hid ((itemsO (putO xk xv o)).length ≤ i + 1) := by
            show _ ≤ _
            rw [HP.out]
            have h := putGo_len xk xv (itemsO o)
            cases (xv == []) <;> omega
          clear v1 v2 v3 v4 v5 v6 v7 u0 u1 A1 A2 hlen2
          obtain ⟨R, HRR⟩ : ∃ R, Hid (itemsO (putO xk xv o) = R) := ⟨_, rfl⟩
          rw [HRR.out] at KR HL
          go_cut [11, 12] (fun yv ev wx => ev = .int .i64 0 ∧ RIn wy wd R yv wx)
          case first =>
            go_region_held3 (fun w' => Below wy.heap.size wy w') (repeat (first | exact bw.drew | exact hNext | assumption | refine Below.drew ?_ | exact bw | refine bel_al ?_ _ | refine bel_st ?_ ?_ _ | exact Nat.le_refl _ | exact hNext.size))
              (first
              | (go_at_call 24
                 refine (KR _ (by assumption)).mono ?_
                 rintro e w3 ⟨sa', ⟨sc', rfl⟩, hT, b3, fr3⟩
                 have hfr : Fresh wy.heap.size sa' R := Fresh.mono fr3 (Below.size (by assumption))
                 have hNext : Below wy.heap.size wy w3 := Below.trans (by assumption) (b3.mono (Below.size (by assumption)))
                 (try have ow := own1 b3)
                 (try have oc0 := (ow.cell 0).trans rfl)
                 (try have oc1 := (ow.cell 1).trans rfl)
                 (try have of0 := ow.frozen 0)
                 (try have of1 := ow.frozen 1)
                 (try have ol := ow.lt)))
            all_goals
              go_wp2
              go_meet
              case rel => first | exact ⟨rfl, RIn.late hT hNext hfr⟩ | exact ⟨rfl, RIn.early hT hNext ow hfr⟩
          case rest =>
            obtain ⟨rfl, b11, sa', sc', rfl, hb11, k11, hI, by_, hfR⟩ := hcut
            generalize wc = wz at *
            obtain ⟨v1, v2, v3, v4, v5, v6⟩ := V.out
            have y1 := v1.trans (by_.mono v1.size)
            have y2 := v2.below by_ v2.lt
            have y3 := v3.below by_ v3.lt
            have y4 := v4.below by_ v4.lt
            have y5 := v5.below by_ v5.lt
            have y6 := TopAt.below by_ v6
            have e0 := (k11.cell 0).trans rfl
            have e1 := (k11.cell 1).trans rfl
            have x0 := (y5.cell 0).trans rfl
            have x1 := (y5.cell 1).trans rfl
            have xf0 := y5.frozen 0
            have xf1 := y5.frozen 1
            have zx := y5.lt
            have hne11 : b11 ≠ b6 + 1 := by have := v5.lt; omega
            have k1 := y5.set 0 (.int .i64 wd)
            have GG : GAt w b6 (b6 + 1) wd q' sa' sc' (putO xk xv o) ((wz.setCell ⟨b6 + 1, 0, none⟩ (.int .i64 wd)).setCell ⟨b6 + 1, 1, none⟩ (.slice sa' R.length sc')) := by
              refine ⟨(y1.setCell (p := ⟨b6 + 1, 0, none⟩) (by simp; omega) _).setCell (p := ⟨b6 + 1, 1, none⟩) (by simp; omega) _, (y2.setOther _ (by show _ ≠ b6 + 1; omega) _).setOther _ (by show _ ≠ b6 + 1; omega) _, (y3.setOther _ (by show _ ≠ b6 + 1; omega) _).setOther _ (by show _ ≠ b6 + 1; omega) _, (y4.setOther _ (by show _ ≠ b6 + 1; omega) _).setOther _ (by show _ ≠ b6 + 1; omega) _, ?_, (y6.setAny y5 (by decide) 0 _).setAny k1 (by decide) 1 _, ?_, ?_⟩
              · rw [HRR.out]; exact k1.set 1 (.slice sa' R.length sc')
              · rw [HRR.out]; exact (hI.setOff y5 (noStr_u _ _ _ _) 0 _).setOff k1 (noStr_u _ _ _ _) 1 _
              · rw [HRR.out]; exact hfR.mono v1.size
            have HGG := show Hid (GAt _ _ _ _ _ _ _ _ _) from GG
            clear v1 v2 v3 v4 v5 v6 y1 y2 y3 y4 y5 y6 k1 GG KR T0 T1 C1 C2 hI by_
            go_wp2
            refine ⟨⟨i + 1, putO xk xv o, q', sa', sc', by omega, by go_num, by show _ = _; rw [HF1.out, HR.out], gp, by rw [HRR.out]; exact HL.out, HGG.out⟩, by simp [intOf]; omega⟩
      · have hlong : 32 < xk.length ∨ 4096 < xv.length := by
          have h := hs
          simp only [short, Bool.and_eq_true, decide_eq_true_eq] at h
          omega
        have hgr : growO o (xk, xv) = o := by unfold growO; rw [if_neg hs]
        have KP : ∀ w', Below wr.heap.size wr w' → Calls Tryz.prog 23 #[.agg #[.int .i64 wd, .pointer q], .string (str xk), .string (str xv)] w' fun e w'' => e = .returned (.tuple #[.agg #[.int .i64 0, .pointer none], .int .i64 3]) ∧ Below w'.heap.size w' w'' := fun w' hb => put_long wd q xk xv w' hkx.1 hkx.2 hlong
        have T0 : ∀ w', Below wr.heap.size wr w' → w'.cell? ⟨b6, 0, none⟩ = some (.int .i64 wd) := fun w' h => by rw [h.cell (p := ⟨b6, 0, none⟩) zt]; exact t0
        have T1 : ∀ w', Below wr.heap.size wr w' → w'.cell? ⟨b6, 1, none⟩ = some (.pointer q) := fun w' h => by rw [h.cell (p := ⟨b6, 1, none⟩) zt]; exact t1
        have C1 : ∀ w', Below wr.heap.size wr w' → w'.cell? ⟨b1, o1 + i * 2, none⟩ = some (.string (str xk)) := fun w' h => A1 w' (G.below.trans (h.mono G.below.size))
        have C2 : ∀ w', Below wr.heap.size wr w' → w'.cell? ⟨b1, o1 + i * 2 + 1, none⟩ = some (.string (str xv)) := fun w' h => A2 w' (G.below.trans (h.mono G.below.size))
        have U0 : ∀ w', Below wr.heap.size wr w' → w'.cell? ⟨b6 + 1, 0, none⟩ = some (.int .i64 wd) := fun w' h => by rw [h.cell (p := ⟨b6 + 1, 0, none⟩) zu]; exact u0
        have U1 : ∀ w', Below wr.heap.size wr w' → w'.cell? ⟨b6 + 1, 1, none⟩ = some (.slice sa (itemsO o).length sc) := fun w' h => by rw [h.cell (p := ⟨b6 + 1, 1, none⟩) zu]; exact u1
        have KR : ∀ w', Below wr.heap.size wr w' → Calls Tryz.prog 24 #[.agg #[.int .i64 wd, .slice sa (itemsO o).length sc], .string (str xk), .string (str xv)] w' fun e w'' => e = .returned (.tuple #[.agg #[.int .i64 0, .slice none 0 0], .int .i64 3]) ∧ Below w'.heap.size w' w'' := fun w' hb => rput_long wd sa (itemsO o).length sc xk xv w' hkx.1 hkx.2 hlong
        have bw : Below wr.heap.size wr wr := Below.refl _ _
        have HG := show Hid (GAt _ _ _ _ _ _ _ _ _) from G
        have HR := show Hid (_ = _) from hgr
        clear G t0 t1 u0 u1 A1 A2 hgr hs hk hkx hlong
        go_upto_region 6 with fail
        go_cut [9, 10] (fun yv ev wv => ev = .int .i64 3 ∧ Below wr.heap.size wr wv)
        case first =>
          go_region_held3 (fun w' => Below wr.heap.size wr w') (repeat (first | exact bw.drew | exact hNext | assumption | refine Below.drew ?_ | exact bw | refine bel_al ?_ _ | refine bel_st ?_ ?_ _ | exact Nat.le_refl _ | exact hNext.size))
            (first
            | (go_at_call 23
               refine (KP _ (by assumption)).mono ?_
               rintro e w3 ⟨rfl, b3⟩
               have hNext : Below wr.heap.size wr w3 := Below.trans (by assumption) (b3.mono (Below.size (by assumption)))
               (try have ow := own1 b3)
               (try have oc0 := (ow.cell 0).trans rfl)
               (try have oc1 := (ow.cell 1).trans rfl)
               (try have of0 := ow.frozen 0)
               (try have of1 := ow.frozen 1)
               (try have ol := ow.lt)))
          all_goals
            go_wp2
            go_meet
            case rel => first | exact ⟨rfl, hNext.alloc hNext.size _⟩ | exact ⟨rfl, (hNext.setCell (p := ⟨wr.heap.size, 0, none⟩) (Nat.le_refl _) _).setCell (p := ⟨wr.heap.size, 1, none⟩) (Nat.le_refl _) _⟩ | exact ⟨rfl, hNext⟩
        case rest =>
          obtain ⟨rfl, bx⟩ := hcut
          generalize wc = wx at *
          have D0 : ∀ w', Below wx.heap.size wx w' → w'.cell? ⟨b6 + 1, 0, none⟩ = some (.int .i64 wd) := fun w' h => U0 w' (bx.trans (h.mono bx.size))
          have D1 : ∀ w', Below wx.heap.size wx w' → w'.cell? ⟨b6 + 1, 1, none⟩ = some (.slice sa (itemsO o).length sc) := fun w' h => U1 w' (bx.trans (h.mono bx.size))
          have E1 : ∀ w', Below wx.heap.size wx w' → w'.cell? ⟨b1, o1 + i * 2, none⟩ = some (.string (str xk)) := fun w' h => C1 w' (bx.trans (h.mono bx.size))
          have E2 : ∀ w', Below wx.heap.size wx w' → w'.cell? ⟨b1, o1 + i * 2 + 1, none⟩ = some (.string (str xv)) := fun w' h => C2 w' (bx.trans (h.mono bx.size))
          have KS : ∀ w', Below wx.heap.size wx w' → Calls Tryz.prog 24 #[.agg #[.int .i64 wd, .slice sa (itemsO o).length sc], .string (str xk), .string (str xv)] w' fun e w'' => e = .returned (.tuple #[.agg #[.int .i64 0, .slice none 0 0], .int .i64 3]) ∧ Below w'.heap.size w' w'' := fun w' h => KR w' (bx.trans (h.mono bx.size))
          have GX := show Hid (GAt _ _ _ _ _ _ _ _ _) from HG.out.next bx
          have zx : b6 + 1 < wx.heap.size := Nat.lt_of_lt_of_le zu bx.size
          clear KP KR T0 T1 C1 C2 U0 U1 bw HG bx
          have bw : Below wx.heap.size wx wx := Below.refl _ _
          go_upto_region 9 with fail
          go_cut [11, 12] (fun yv ev wv => ev = .int .i64 3 ∧ Below wx.heap.size wx wv)
          case first =>
            go_region_held3 (fun w' => Below wx.heap.size wx w') (repeat (first | exact bw.drew | exact hNext | assumption | refine Below.drew ?_ | exact bw | refine bel_al ?_ _ | refine bel_st ?_ ?_ _ | exact Nat.le_refl _ | exact hNext.size))
              (first
              | (go_at_call 24
                 refine (KS _ (by assumption)).mono ?_
                 rintro e w3 ⟨rfl, b3⟩
                 have hNext : Below wx.heap.size wx w3 := Below.trans (by assumption) (b3.mono (Below.size (by assumption)))
                 (try have ow := own1 b3)
                 (try have oc0 := (ow.cell 0).trans rfl)
                 (try have oc1 := (ow.cell 1).trans rfl)
                 (try have of0 := ow.frozen 0)
                 (try have of1 := ow.frozen 1)
                 (try have ol := ow.lt)))
            all_goals
              go_wp2
              go_meet
              case rel => first | exact ⟨rfl, hNext.alloc hNext.size _⟩ | exact ⟨rfl, (hNext.setCell (p := ⟨wx.heap.size, 0, none⟩) (Nat.le_refl _) _).setCell (p := ⟨wx.heap.size, 1, none⟩) (Nat.le_refl _) _⟩ | exact ⟨rfl, hNext⟩
          case rest =>
            obtain ⟨rfl, by_⟩ := hcut
            generalize wc = wz at *
            have GZ := show Hid (GAt _ _ _ _ _ _ _ _ _) from GX.out.next by_
            clear KS D0 D1 E1 E2
            go_wp2
            exact ⟨⟨i + 1, o, q, sa, sc, by omega, by go_num, by show _ = _; rw [HF1.out, HR.out], hg, by omega, GZ.out⟩, by simp [intOf]; omega⟩
    · have hge : ¬ (i : Int) < (l.length : Int) := by omega
      have HE : Hid (l.foldl growO none = o) := by
        show _ = _
        rw [HF.out, List.drop_of_length_le (by omega)]
        rfl
      have r0 := (G.r4.cell 0).trans rfl
      have r1 := (G.r4.cell 1).trans rfl
      have r2 := (G.r5.cell 0).trans rfl
      have r3 := (G.r5.cell 1).trans rfl
      have g0 := G.r4.frozen 0
      have g1 := G.r4.frozen 1
      have g2 := G.r5.frozen 0
      have g3 := G.r5.frozen 1
      have z4 := G.r4.lt
      have z5 := G.r5.lt
      have hb64 : b6 ≠ w.heap.size := by omega
      have hb65 : b6 ≠ w.heap.size + 1 := by omega
      go_upto_region 12 with fail
      have k1 := G.r4.set 0 (.int .i64 wd)
      have k2 := k1.set 1 (.pointer q)
      have k3 : Blk ((wr.setCell ⟨w.heap.size, 0, none⟩ (.int .i64 wd)).setCell ⟨w.heap.size, 1, none⟩ (.pointer q)) (w.heap.size + 1) #[.int .i64 0, .slice none 0 0] 36 := (G.r5.setOther _ (by show _ ≠ w.heap.size; omega) _).setOther _ (by show _ ≠ w.heap.size; omega) _
      have k4 := k3.set 0 (.int .i64 wd)
      have HT : Hid (TopAt wd ((((wr.setCell ⟨w.heap.size, 0, none⟩ (.int .i64 wd)).setCell ⟨w.heap.size, 1, none⟩ (.pointer q)).setCell ⟨w.heap.size + 1, 0, none⟩ (.int .i64 wd)).setCell ⟨w.heap.size + 1, 1, none⟩ (.slice sa (itemsO o).length sc)).drew (.pointer q) o) := TopAt.below ((Below.refl _ _).drew) ((((G.top.setAny G.r4 (by decide) 0 _).setAny k1 (by decide) 1 _).setAny k3 (by decide) 0 _).setAny k4 (by decide) 1 _)
      have HI : Hid (ItemsAt ((((wr.setCell ⟨w.heap.size, 0, none⟩ (.int .i64 wd)).setCell ⟨w.heap.size, 1, none⟩ (.pointer q)).setCell ⟨w.heap.size + 1, 0, none⟩ (.int .i64 wd)).setCell ⟨w.heap.size + 1, 1, none⟩ (.slice sa (itemsO o).length sc)).drew sa (itemsO o)) := ItemsAt.below ((((G.its.setOff G.r4 (noStr_t _ _) 0 _).setOff k1 (noStr_t _ _) 1 _).setOff k3 (noStr_u _ _ _ _) 0 _).setOff k4 (noStr_u _ _ _ _) 1 _) ((Below.refl _ _).drew)
      have HB : Hid (Below w.heap.size w ((((wr.setCell ⟨w.heap.size, 0, none⟩ (.int .i64 wd)).setCell ⟨w.heap.size, 1, none⟩ (.pointer q)).setCell ⟨w.heap.size + 1, 0, none⟩ (.int .i64 wd)).setCell ⟨w.heap.size + 1, 1, none⟩ (.slice sa (itemsO o).length sc)).drew) := ((((G.below.setCell (p := ⟨w.heap.size, 0, none⟩) (Nat.le_refl _) _).setCell (p := ⟨w.heap.size, 1, none⟩) (Nat.le_refl _) _).setCell (p := ⟨w.heap.size + 1, 0, none⟩) (Nat.le_succ _) _).setCell (p := ⟨w.heap.size + 1, 1, none⟩) (Nat.le_succ _) _).drew
      have HFr : Hid (Fresh w.heap.size sa (itemsO o)) := G.fr
      clear k1 k2 k3 k4
      go_region
      go_wp2
      exact bodyPost_ret (v := .tuple #[.agg #[.int .i64 wd, .pointer q], .agg #[.int .i64 wd, .slice sa (itemsO o).length sc]]) (by simp [results, Tryz.results6, go_sem, r0, r1, r2, r3, g0, g1, g2, g3, z4, z5]) rfl ⟨q, sa, ⟨sc, by rw [HE.out]⟩, by rw [HE.out]; exact HT.out, by rw [HE.out]; exact HI.out, HB.out, by rw [HE.out]; exact HFr.out⟩

theorem grown_any (wd : Int) (la : Option Addr) (cap : Nat) (l : List (Key × Key)) (w : World) (hw : okW wd) (hn : l.length ≤ 1024) (hk : ∀ x ∈ l, x.1.length ≤ maxLen ∧ x.2.length ≤ maxLen) (hi0 : ItemsAt w la l) :
    Calls Tryz.prog 6 #[.int .i64 wd, .slice la l.length cap] w fun e w' => ∃ q la', (∃ cap', e = .returned (.tuple #[.agg #[.int .i64 wd, .pointer q], .agg #[.int .i64 wd, .slice la' (itemsO (l.foldl growO none)).length cap']])) ∧ TopAt wd w' (.pointer q) (l.foldl growO none) ∧ ItemsAt w' la' (itemsO (l.foldl growO none)) ∧ Below w.heap.size w w' := (grown_own wd la cap l w hw hn hk hi0).mono fun e w' ⟨q, la', h1, h2, h3, h4, _⟩ => ⟨q, la', h1, h2, h3, h4⟩
end Go.Proofs.YtmhllihedejehaaGreat
