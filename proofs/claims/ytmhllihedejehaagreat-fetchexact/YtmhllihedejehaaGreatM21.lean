/- The digest of a tree. -/
import Derived.Test.YtmhllihedejehaaGreatM17
import Derived.Lib.AppendStr
import Derived.Deep.AppendLies
import Derived.Deep.RegionLaw
import Derived.WalkSmall

namespace Go.Proofs.YtmhllihedejehaaGreat
open Go.RowKit
set_option linter.unusedVariables false
set_option linter.unusedSimpArgs false

set_option maxHeartbeats 1600000 in
theorem root_none (wd : Int) (w : World) (hw : okW wd) :
    Calls Tryz.prog 21 #[.agg #[.int .i64 wd, .pointer none]] w fun e w' => e = .returned (.int .u64 (rootP wd none)) ∧ Below w.heap.size w w' := by
  have bA : Below w.heap.size w (w.alloc (.cells #[.int .i64 wd, .pointer none] 34)) := (Below.refl _ _).alloc (Nat.le_refl _) _
  have kT := Blk.new w #[.int .i64 wd, .pointer none] 34
  go_enter Tryz.func21, Tryz.ntmps21
  go_upto_region 2 with fail
  generalize w.alloc (.cells #[.int .i64 wd, .pointer none] 34) = wA at *
  have t0 := kT.cell 0
  simp only [List.getElem?_toArray, List.getElem?_cons_succ, List.getElem?_cons_zero] at t0
  have T0 : ∀ w', Below wA.heap.size wA w' → w'.cell? ⟨w.heap.size, 0, none⟩ = some (.int .i64 wd) := fun w' h => by rw [h.cell (p := ⟨w.heap.size, 0, none⟩) kT.lt]; exact t0
  have bw : Below wA.heap.size wA wA := Below.refl _ _
  go_region_held3 (fun w' => Below wA.heap.size wA w') (repeat (first | exact bw.drew | exact hNext | assumption | refine Below.drew ?_ | exact bw))
    (first
    | (go_at_call 43
       refine (bareI_any _).mono ?_
       rintro e w3 ⟨v, rfl, ⟨a, cap, rfl, hs⟩, b3⟩
       have hNext : Below wA.heap.size wA w3 := Below.trans (by assumption) (b3.mono (Below.size (by assumption))))
    | (go_at_call 42
       refine (ofImg_any wd 5 [] _ _ hw (Nat.zero_le _) ⟨a, cap, rfl, hs⟩).mono ?_
       rintro e w4 ⟨rfl, b4⟩
       have hNext2 : Below wA.heap.size wA w4 := hNext.trans (b4.mono hNext.size)))
  all_goals
    go_wp2
    go_ret
    exact ⟨rfl, bA.trans (hNext2.mono bA.size)⟩

set_option maxHeartbeats 1600000 in
theorem root_some (wd : Int) (b : Nat) (t : Tr) (w : World) (hw : okW wd) (h : NodeAt wd w b t) :
    Calls Tryz.prog 21 #[.agg #[.int .i64 wd, .pointer (some ⟨b, 0, none⟩)]] w fun e w' => e = .returned (.int .u64 (rootP wd (some t))) ∧ Below w.heap.size w w' := by
  have bA : Below w.heap.size w (w.alloc (.cells #[.int .i64 wd, .pointer (some ⟨b, 0, none⟩)] 34)) := (Below.refl _ _).alloc (Nat.le_refl _) _
  have kT := Blk.new w #[.int .i64 wd, .pointer (some ⟨b, 0, none⟩)] 34
  have hA := NodeAt.below bA h
  go_enter Tryz.func21, Tryz.ntmps21
  go_upto_region 3 with fail
  generalize w.alloc (.cells #[.int .i64 wd, .pointer (some ⟨b, 0, none⟩)] 34) = wA at *
  have t0 := kT.cell 0
  have t1 := kT.cell 1
  simp only [List.getElem?_toArray, List.getElem?_cons_succ, List.getElem?_cons_zero] at t0 t1
  have T0 : ∀ w', Below wA.heap.size wA w' → w'.cell? ⟨w.heap.size, 0, none⟩ = some (.int .i64 wd) := fun w' h => by rw [h.cell (p := ⟨w.heap.size, 0, none⟩) kT.lt]; exact t0
  have T1 : ∀ w', Below wA.heap.size wA w' → w'.cell? ⟨w.heap.size, 1, none⟩ = some (.pointer (some ⟨b, 0, none⟩)) := fun w' h => by rw [h.cell (p := ⟨w.heap.size, 1, none⟩) kT.lt]; exact t1
  have D0 : ∀ w', Below wA.heap.size wA w' → w'.cell? ⟨b, 0, none⟩ = some (.int .u64 (t.dig wd)) := fun w' h => (NodeAt.below h hA).dig
  have bw : Below wA.heap.size wA wA := Below.refl _ _
  have hd := t.dig_bd wd
  obtain ⟨d, Hd⟩ : ∃ d, Hid (t.dig wd = d) := ⟨_, rfl⟩
  rw [Hd.out] at hd D0
  have HR : Hid (rootP wd (some t) = ofP wd 5 [str (be d 8)]) := by show _ = _; simp only [rootP]; rw [Hd.out]
  clear hA h t0 t1
  go_region_held3 (fun w' => Below wA.heap.size wA w') (repeat (first | exact bw.drew | exact hNext | assumption | refine Below.drew ?_ | exact bw))
    (first
    | (go_at_call 44
       refine (treeI_any d _ hd).mono ?_
       rintro e w3 ⟨v, rfl, ⟨a, cap, rfl, hs⟩, b3⟩
       have hNext : Below wA.heap.size wA w3 := Below.trans (by assumption) (b3.mono (Below.size (by assumption))))
    | (go_at_call 42
       refine (ofImg_any wd 5 [str (be d 8)] _ _ hw (by unfold maxLen; simp) ⟨a, cap, rfl, hs⟩).mono ?_
       rintro e w4 ⟨rfl, b4⟩
       have hNext2 : Below wA.heap.size wA w4 := hNext.trans (b4.mono hNext.size)))
  all_goals
    go_wp2
    go_ret
    exact ⟨by rw [HR.out]; rfl, bA.trans (hNext2.mono bA.size)⟩

theorem root_any (wd : Int) (q : Option Addr) (o : Option Tr) (w : World) (hw : okW wd) (h : TopAt wd w (.pointer q) o) :
    Calls Tryz.prog 21 #[.agg #[.int .i64 wd, .pointer q]] w fun e w' => e = .returned (.int .u64 (rootP wd o)) ∧ Below w.heap.size w w' := by
  cases o with
  | none =>
    have e : q = none := by have h : Value.pointer q = .pointer none := h; injection h
    subst e
    exact root_none wd w hw
  | some t =>
    obtain ⟨b, e, hn⟩ := h
    have e : q = some ⟨b, 0, none⟩ := by injection e
    subst e
    exact root_some wd b t w hw hn
end Go.Proofs.YtmhllihedejehaaGreat

namespace Go.Proofs.YtmhllihedejehaaGreat
open Go.RowKit
set_option linter.unusedVariables false
set_option linter.unusedSimpArgs false

/-- A list of items in memory. -/
def ItemsAt (w : World) (la : Option Addr) (l : List (Key × Key)) : Prop :=
  l = [] ∨ ∃ b off, la = some ⟨b, off, none⟩ ∧ b < w.heap.size ∧ ∀ i x, l[i]? = some x → w.cell? ⟨b, off + i * 2, none⟩ = some (.string (str x.1)) ∧ w.cell? ⟨b, off + i * 2 + 1, none⟩ = some (.string (str x.2))
theorem ItemsAt.below {w w' : World} {la : Option Addr} {l : List (Key × Key)} (h : ItemsAt w la l) (hb : Below w.heap.size w w') : ItemsAt w' la l := by
  rcases h with h | ⟨b, off, e, hl, hc⟩
  · exact .inl h
  · refine .inr ⟨b, off, e, Nat.lt_of_lt_of_le hl hb.size, fun i x hx => ?_⟩
    obtain ⟨h1, h2⟩ := hc i x hx
    exact ⟨by rw [hb.cell (p := ⟨b, off + i * 2, none⟩) hl]; exact h1, by rw [hb.cell (p := ⟨b, off + i * 2 + 1, none⟩) hl]; exact h2⟩

set_option maxHeartbeats 1600000 in
theorem sameItems_any (la lb : Option Addr) (ca cb : Nat) (l m : List (Key × Key)) (w : World) (hl : l.length ≤ 1000000) (hm : m.length ≤ 1000000) (h1 : ItemsAt w la l) (h2 : ItemsAt w lb m) :
    Calls Tryz.prog 19 #[.slice la l.length ca, .slice lb m.length cb] w fun e w' => e = .returned (.bool (decide (l = m))) ∧ Below w.heap.size w w' := by
  by_cases hlen : l.length = m.length
  rotate_left
  · have hne : ((l.length : Int) != (m.length : Int)) = true := by simp; omega
    have hd : decide (l = m) = false := by simp; intro e; exact hlen (by rw [e])
    rw [hd]
    go_enter Tryz.func19, Tryz.ntmps19
    go_wp2
    go_ret
    exact ⟨rfl, Below.refl _ _⟩
  · have hne : ((l.length : Int) != (m.length : Int)) = false := by simp; omega
    go_enter Tryz.func19, Tryz.ntmps19
    go_wp2_with fail
    go_loopw [5] (fun iv wv => ∃ i : Nat, i ≤ l.length ∧ iv = .int .i64 i ∧ Hid (l.take i = m.take i) ∧ Below w.heap.size w wv) (fun iv _ => l.length - (intOf iv).toNat)
    case atStart => exact ⟨0, Nat.zero_le _, rfl, rfl, Below.refl _ _⟩
    case round =>
      obtain ⟨i, hi, rfl, HT, hb⟩ := hrel
      by_cases hlt : i < l.length
      · have hlt' : (i : Int) < (l.length : Int) := by omega
        have hlm : i < m.length := by omega
        have hlm' : (i : Int) < (m.length : Int) := by omega
        rcases ItemsAt.below h1 hb with h0 | ⟨b1, o1, e1, z1, c1⟩
        · rw [h0] at hlt; simp at hlt
        rcases ItemsAt.below h2 hb with h0 | ⟨b2, o2, e2, z2, c2⟩
        · rw [h0] at hlm; simp at hlm
        subst e1
        subst e2
        obtain ⟨a1, a2⟩ := c1 i _ (List.getElem?_eq_getElem hlt)
        obtain ⟨d1, d2⟩ := c2 i _ (List.getElem?_eq_getElem hlm)
        have ht1 := List.take_succ_eq_append_getElem hlt
        have ht2 := List.take_succ_eq_append_getElem hlm
        obtain ⟨x, ex⟩ : ∃ x, l[i] = x := ⟨_, rfl⟩
        obtain ⟨y, ey⟩ : ∃ y, m[i] = y := ⟨_, rfl⟩
        rw [ex] at a1 a2 ht1
        rw [ey] at d1 d2 ht2
        have HX : Hid (l[i] = x) := ex
        have HY : Hid (m[i] = y) := ey
        clear c1 c2 ex ey
        obtain ⟨xk, xv⟩ := x
        obtain ⟨yk, yv⟩ := y
        simp only at a1 a2 d1 d2
        have s1 := str_toList xk
        have s2 := str_toList yk
        have s3 := str_toList xv
        have s4 := str_toList yv
        by_cases hxy : xk = yk ∧ xv = yv
        · obtain ⟨rfl, rfl⟩ := hxy
          have HT1 : Hid (l.take (i + 1) = m.take (i + 1)) := by
            show _ = _
            rw [ht1, ht2, HT.out]
          clear ht1 ht2
          go_upto_region 6 with fail
          go_quiet (fail)
          go_wp2
          exact ⟨⟨i + 1, by omega, by go_num, HT1, below_drewN hb _⟩, by simp [intOf]; omega⟩
        · have hd : decide (l = m) = false := by
            simp
            intro e
            apply hxy
            have h3 := HX.out
            have h4 := HY.out
            subst e
            rw [h3] at h4
            injection h4 with h5 h6
            exact ⟨h5, h6⟩
          have Hd : Hid (decide (l = m) = false) := hd
          clear ht1 ht2 hd
          by_cases g1 : xk = yk
          · have g2 : (xv == yv) = false := by simp; exact fun e => hxy ⟨g1, e⟩
            subst g1
            clear hxy HX HY
            go_upto_region 6 with fail
            go_quiet (fail)
            go_wp2
            go_ret
            exact ⟨by rw [Hd.out]; rfl, below_drewN hb _⟩
          · have g2 : (xk == yk) = false := by simpa using g1
            clear hxy HX HY g1
            go_upto_region 6 with fail
            go_quiet (fail)
            go_wp2
            go_ret
            exact ⟨by rw [Hd.out]; rfl, below_drewN hb _⟩
      · have hge : ¬ (i : Int) < (l.length : Int) := by omega
        have Hd : Hid (decide (l = m) = true) := by
          show _ = _
          have := HT.out
          rw [List.take_of_length_le (by omega), List.take_of_length_le (by omega)] at this
          simp [this]
        go_wp2
        go_ret
        exact ⟨by rw [Hd.out]; rfl, hb⟩
end Go.Proofs.YtmhllihedejehaaGreat

namespace Go.Proofs.YtmhllihedejehaaGreat
open Go.RowKit
set_option linter.unusedVariables false
set_option linter.unusedSimpArgs false

/-- It says yes or no, and no of more than so many. -/
def Few (n : Nat) (e : Ending) : Prop := ∃ z : Bool, e = .returned (.bool z) ∧ (z = true → n ≤ 1024)

set_option maxHeartbeats 1600000 in
theorem light_any (la : Option Addr) (ca : Nat) (l : List (Key × Key)) (w : World) (hl : l.length ≤ maxLen) (h1 : ItemsAt w la l) :
    Calls Tryz.prog 4 #[.slice la l.length ca] w fun e w' => Few l.length e ∧ Below w.heap.size w w' := by
  unfold maxLen at hl
  go_enter Tryz.func4, Tryz.ntmps4
  go_wp2_with fail
  go_loopw [3, 4] (fun nv iv wv => ∃ (i : Nat) (n : Int), i ≤ l.length ∧ iv = .int .i64 i ∧ nv = .int .i64 n ∧ Below w.heap.size w wv) (fun _ iv _ => l.length - (intOf iv).toNat)
  case atStart => exact ⟨0, _, Nat.zero_le _, rfl, rfl, Below.refl _ _⟩
  case round =>
    obtain ⟨i, n, hi, rfl, rfl, hb⟩ := hrel
    by_cases hlt : i < l.length
    · have hlt' : (i : Int) < (l.length : Int) := by omega
      by_cases hn : n ≤ 65536
      · rcases ItemsAt.below h1 hb with h0 | ⟨b1, o1, e1, z1, c1⟩
        · rw [h0] at hlt; simp at hlt
        subst e1
        obtain ⟨a1, a2⟩ := c1 i _ (List.getElem?_eq_getElem hlt)
        generalize l[i] = x at *
        obtain ⟨xk, xv⟩ := x
        simp only at a1 a2
        clear c1 h1
        go_upto_region 5 with fail
        go_quiet (fail)
        go_wp2
        exact ⟨⟨i + 1, _, by omega, by go_num, rfl, below_drewN hb _⟩, by simp [intOf]; omega⟩
      · have hnd : decide (n ≤ 65536) = false := by simpa using hn
        go_wp2
        go_ret
        exact ⟨⟨false, rfl, fun h => by cases h⟩, hb⟩
    · have hge : ¬ (i : Int) < (l.length : Int) := by omega
      by_cases hn : n ≤ 65536
      · by_cases hs : l.length ≤ 1024
        · have hs' : (l.length : Int) ≤ 1024 := by omega
          go_wp2
          go_ret
          exact ⟨⟨true, rfl, fun _ => hs⟩, hb⟩
        · have hs' : ¬ (l.length : Int) ≤ 1024 := by omega
          have hsd : decide ((l.length : Int) ≤ 1024) = false := by simpa using hs'
          go_wp2
          go_ret
          exact ⟨⟨false, rfl, fun h => by cases h⟩, hb⟩
      · have hnd : decide (n ≤ 65536) = false := by simpa using hn
        go_wp2
        go_ret
        exact ⟨⟨false, rfl, fun h => by cases h⟩, hb⟩
end Go.Proofs.YtmhllihedejehaaGreat

namespace Go.Proofs.YtmhllihedejehaaGreat
open Go.RowKit
set_option linter.unusedVariables false
set_option linter.unusedSimpArgs false

/-- The cells of a list of items. -/
def flat (l : List (Key × Key)) : List Value := l.flatMap fun x => [.string (str x.1), .string (str x.2)]
theorem flat_len (l : List (Key × Key)) : (flat l).length = l.length * 2 := by
  induction l with
  | nil => rfl
  | cons x r ih => simp only [flat, List.flatMap_cons, List.length_append, List.length_cons, List.length_nil] at ih ⊢; omega
theorem flat_snoc (l : List (Key × Key)) (x : Key × Key) : flat (l ++ [x]) = flat l ++ [.string (str x.1), .string (str x.2)] := by simp [flat]
theorem flat_get : ∀ (l : List (Key × Key)) (i : Nat) (x : Key × Key), l[i]? = some x → (flat l)[i * 2]? = some (.string (str x.1)) ∧ (flat l)[i * 2 + 1]? = some (.string (str x.2))
  | [], i, x, h => by simp at h
  | y :: r, 0, x, h => by simp only [List.getElem?_cons_zero, Option.some.injEq] at h; subst h; simp [flat]
  | y :: r, i + 1, x, h => by
    rw [List.getElem?_cons_succ] at h
    obtain ⟨h1, h2⟩ := flat_get r i x h
    have e1 : (i + 1) * 2 = i * 2 + 1 + 1 := by omega
    rw [e1]
    simp only [flat, List.flatMap_cons, List.cons_append, List.nil_append, List.getElem?_cons_succ] at h1 h2 ⊢
    exact ⟨h1, h2⟩

theorem infoItem : (Tryz.prog.info? 64).map (fun i => (i.zero, i.size, i.bytes)) = some (some (.agg #[.string ⟨#[]⟩, .string ⟨#[]⟩]), 2, 32) := by kernel_rfl

/-- A row of items of the call's own is a list of items. -/
theorem ItemsAt.of_owns {w : World} {base : Nat} {sv : Value} {m : List (Key × Key)} (h : w.ownsRow base 64 2 sv m.length (flat m)) : ∃ la cap, sv = .slice la m.length cap ∧ ItemsAt w la m := by
  rcases h.2 with ⟨e, h0⟩ | ⟨g, cap, cur, e, _, hg, hc, hcm, hs, ht⟩
  · have : m = [] := List.eq_nil_of_length_eq_zero h0
    subst this
    exact ⟨none, 0, e, .inl rfl⟩
  · refine ⟨_, cap, e, .inr ⟨g, 0, rfl, (Array.getElem?_eq_some_iff.1 hg).1, fun i x hx => ?_⟩⟩
    obtain ⟨f1, f2⟩ := flat_get m i x hx
    have hi : i < m.length := (List.getElem?_eq_some_iff.1 hx).1
    have key : ∀ j v, (flat m)[j]? = some v → w.cell? ⟨g, j, none⟩ = some v := by
      intro j v hj
      rw [← ht] at hj
      have hjl : j < m.length * 2 := by
        have := (List.getElem?_eq_some_iff.1 hj).1
        rw [List.length_take] at this
        omega
      rw [List.getElem?_take_of_lt hjl] at hj
      simp only [World.cell?, hg]
      simpa using hj
    refine ⟨?_, ?_⟩
    · rw [Nat.zero_add]; exact key _ _ f1
    · rw [Nat.zero_add]; exact key _ _ f2

/-- The answer's Put under way: m has come. -/
structure RPut (w0 : World) (W : Int) (la : Option Addr) (cap : Nat) (l m : List (Key × Key)) (sv : Value) (w : World) : Prop where
  below : Below w0.heap.size w0 w
  t : Blk w w0.heap.size #[.int .i64 W, .slice la l.length cap] 36
  r : Blk w (w0.heap.size + 1) #[.int .i64 0, .slice none 0 0] 36
  o : Blk w (w0.heap.size + 2) #[.int .i64 W, sv] 36
  own : w.ownsRow (w0.heap.size + 3) 64 2 sv m.length (flat m)
theorem RPut.next {w0 w w' : World} {W : Int} {la : Option Addr} {cap : Nat} {l m : List (Key × Key)} {sv : Value} (h : RPut w0 W la cap l m sv w) (hb : Below w.heap.size w w') : RPut w0 W la cap l m sv w' :=
  ⟨h.below.trans (hb.mono h.below.size), h.t.below hb h.t.lt, h.r.below hb h.r.lt, h.o.below hb h.o.lt, by
    obtain ⟨h1, h2⟩ := h.own
    refine ⟨h1, ?_⟩
    rcases h2 with h2 | ⟨g, cap, cur, e1, e2, e3, e4⟩
    · exact .inl h2
    · exact .inr ⟨g, cap, cur, e1, e2, by rw [hb.block g (Array.getElem?_eq_some_iff.1 e3).1]; exact e3, e4⟩⟩
/-- Behind an append, and the store of what it gave. -/
theorem RPut.appended {w0 w w2 : World} {W : Int} {la : Option Addr} {cap : Nat} {l m : List (Key × Key)} {sv : Value} {g cg : Nat} (h : RPut w0 W la cap l m sv w) (x : Key × Key)
    (hown : w2.ownsRow (w0.heap.size + 3) 64 2 (.slice (some ⟨g, 0, none⟩) (m.length + 1) cg) (m.length + 1) (flat m ++ [.string (str x.1), .string (str x.2)]))
    (hgrow : (w.alloc (.cells #[.string (str x.1), .string (str x.2)] 64)).grownBy w2 sv.ownBlock) :
    Blk w2 (w0.heap.size + 2) #[.int .i64 W, sv] 36 ∧ RPut w0 W la cap l (m ++ [x]) (.slice (some ⟨g, 0, none⟩) (m.length + 1) cg) (w2.setCell ⟨w0.heap.size + 2, 1, none⟩ (.slice (some ⟨g, 0, none⟩) (m.length + 1) cg)) := by
  have hne : ∀ k, sv.ownBlock = some k → w0.heap.size + 3 ≤ k := fun k e => (h.own.lt k e).1
  have b2 : Below w0.heap.size w0 w2 := (h.below.alloc h.below.size _).grown hgrow (by have := h.below.size; simp; omega) (fun k e => by have := hne k e; omega)
  have t2 := (h.t.alloc (.cells #[.string (str x.1), .string (str x.2)] 64)).grown hgrow (fun e => by have := hne _ e; omega)
  have r2 := (h.r.alloc (.cells #[.string (str x.1), .string (str x.2)] 64)).grown hgrow (fun e => by have := hne _ e; omega)
  have o2 := (h.o.alloc (.cells #[.string (str x.1), .string (str x.2)] 64)).grown hgrow (fun e => by have := hne _ e; omega)
  refine ⟨o2, b2.setCell (p := ⟨w0.heap.size + 2, 1, none⟩) (by simp) _, t2.setOther _ (by show _ ≠ w0.heap.size + 2; omega) _, r2.setOther _ (by show _ ≠ w0.heap.size + 2; omega) _, o2.set 1 _, ?_⟩
  have := ownsRow_setCell_below hown (a := ⟨w0.heap.size + 2, 1, none⟩) (by simp) (.slice (some ⟨g, 0, none⟩) (m.length + 1) cg)
  rw [flat_snoc, List.length_append]
  exact this
end Go.Proofs.YtmhllihedejehaaGreat
