/- From the root down, the first two that are unlike: the answer's way. -/
import Derived.Test.YtabimdlooddcoaaDigSame
namespace Go.Proofs.Ytabimdlooddcoaa
open Go.RowKit
set_option linter.unusedVariables false

theorem firstUn_at (l m : List (Int × List ByteArray)) (k : Nat) (h1 : k < l.length) (h2 : k < m.length) : firstUn (l.drop k) (m.drop k) = if l[k] = m[k] then firstUn (l.drop (k+1)) (m.drop (k+1)) else some (l[k], m[k]) := by
  rw [List.drop_eq_getElem_cons h1, List.drop_eq_getElem_cons h2]; rfl
theorem firstUn_end (l m : List (Int × List ByteArray)) (k : Nat) (h : l.length ≤ k ∨ m.length ≤ k) : firstUn (l.drop k) (m.drop k) = none := by
  rcases h with h | h
  · rw [List.drop_of_length_le h]; simp [firstUn]
  · rw [List.drop_of_length_le h]
    cases l.drop k <;> rfl

/-- Two images told, or none. -/
def Told (w : World) (o : Option ((Int × List ByteArray) × (Int × List ByteArray))) (v : Value) : Prop :=
  ∃ (t1 t2 : Int) (s1 s2 : List ByteArray) (a1 a2 : Option Addr) (c1 c2 : Nat), v = .tuple #[.agg #[.int .i64 t1, .slice a1 s1.length c1], .agg #[.int .i64 t2, .slice a2 s2.length c2], .bool o.isSome] ∧
    Strs w a1 s1 ∧ Strs w a2 s2 ∧ s1.length ≤ 2 ∧ s2.length ≤ 2 ∧ o.getD ((0, []), (0, [])) = ((t1, s1), (t2, s2))
theorem told_none (w : World) : Told w none (.tuple #[.agg #[.int .i64 0, .slice none 0 0], .agg #[.int .i64 0, .slice none 0 0], .bool false]) :=
  ⟨0, 0, [], [], none, none, 0, 0, rfl, ⟨by simp, .inl rfl⟩, ⟨by simp, .inl rfl⟩, by simp, by simp, rfl⟩

theorem Imgs.form {w : World} {v : Value} {E : List Ent} (h : Imgs w v E) : ∃ a cap, v = .slice a E.length cap ∧ E.length ≤ maxLen := by
  rcases h.2 with ⟨rfl, rfl⟩ | ⟨g, cap, cur, rfl, h1, h2, _⟩
  · exact ⟨none, 0, rfl, by simp⟩
  · exact ⟨_, cap, rfl, by omega⟩

theorem Imgs.at {w : World} {a : Option Addr} {n cap : Nat} {E : List Ent} (h : Imgs w (.slice a n cap) E) (k : Nat) (hk : k < E.length) :
    ∃ g, a = some ⟨g, 0, none⟩ ∧ g < w.heap.size ∧ w.cell? ⟨g, k * 2, none⟩ = some (.int .i64 E[k].tag) ∧ w.cell? ⟨g, k * 2 + 1, none⟩ = some (.slice E[k].a E[k].ss.length E[k].cap) ∧ Strs w E[k].a E[k].ss := by
  have hS := (h.1 E[k] (List.getElem_mem hk)).1
  rcases h.2 with ⟨rfl, _⟩ | ⟨g, cap', cur, e, h1, h2, hB, hH⟩
  · simp at hk
  · have e' := e
    injection e' with e1 e2 e3
    have q := hH k hk
    simp only [show E.getD k noEnt = E[k] from by simp [List.getD, hk]] at q
    refine ⟨g, e1, hB.lt, ?_, ?_, hS⟩
    · rw [hB.cell]; exact q.1
    · rw [hB.cell]; exact q.2

set_option maxHeartbeats 1600000 in
theorem unlike_any (a1 a2 : Option Addr) (c1 c2 : Nat) (E F : List Ent) (w : World) (hE : Imgs w (.slice a1 E.length c1) E) (hF : Imgs w (.slice a2 F.length c2) F) (hl : E.length ≤ 4611686018427387904) (hm : F.length ≤ 4611686018427387904) (hsE : ∀ e ∈ E, e.ss.length ≤ 2) (hsF : ∀ e ∈ F, e.ss.length ≤ 2) :
    Calls Try.prog 41 #[.slice a1 E.length c1, .slice a2 F.length c2] w fun e w' => ∃ v, e = .returned v ∧ Told w' (firstUn (E.map Ent.img).reverse (F.map Ent.img).reverse) v ∧ Below w.heap.size w w' := by
  have HsE := show Hid _ from hsE
  have HsF := show Hid _ from hsF
  clear hsE hsF
  go_enter Try.func41, Try.ntmps41
  go_wp2_with fail
  have bA := below_two w (.cells #[.int .i64 0, .slice none 0 0] 30) (.cells #[.int .i64 0, .slice none 0 0] 30)
  have kR1 : Blk ((w.alloc (.cells #[.int .i64 0, .slice none 0 0] 30)).alloc (.cells #[.int .i64 0, .slice none 0 0] 30)) w.heap.size #[.int .i64 0, .slice none 0 0] 30 := (Blk.new w _ _).alloc _
  have kR2 : Blk ((w.alloc (.cells #[.int .i64 0, .slice none 0 0] 30)).alloc (.cells #[.int .i64 0, .slice none 0 0] 30)) (w.heap.size + 1) #[.int .i64 0, .slice none 0 0] 30 := by have h := Blk.new (w.alloc (.cells #[.int .i64 0, .slice none 0 0] 30)) #[.int .i64 0, .slice none 0 0] 30; rw [World.size_alloc] at h; exact h
  have hE' := hE.below bA
  have hF' := hF.below bA
  generalize ((w.alloc (.cells #[.int .i64 0, .slice none 0 0] 30)).alloc (.cells #[.int .i64 0, .slice none 0 0] 30)) = wl at *
  go_loopw [7] (fun iv wv => ∃ k : Nat, k ≤ E.length ∧ k ≤ F.length ∧ iv = .int .i64 ((k : Int) + 1) ∧ Hid (firstUn (E.map Ent.img).reverse (F.map Ent.img).reverse = firstUn ((E.map Ent.img).reverse.drop k) ((F.map Ent.img).reverse.drop k)) ∧ Below wl.heap.size wl wv) (fun iv _ => E.length + 1 - (intOf iv).toNat)
  case atStart => exact ⟨0, Nat.zero_le _, Nat.zero_le _, rfl, rfl, Below.refl _ _⟩
  case round =>
    obtain ⟨k, hk, hk2, rfl, HA, hb⟩ := hrel
    have p1 := kR1.below hb kR1.lt
    have p2 := kR2.below hb kR2.lt
    have r0 := p1.cell 0
    have r1 := p1.cell 1
    have r2 := p2.cell 0
    have r3 := p2.cell 1
    simp only [List.getElem?_toArray, List.getElem?_cons_succ, List.getElem?_cons_zero] at r0 r1 r2 r3
    have l1 := p1.lt
    have l2 := p2.lt
    by_cases hlt : k < E.length ∧ k < F.length
    · obtain ⟨hlt1, hlt2⟩ := hlt
      obtain ⟨g1, rfl, hg1, e0, e1, hS1⟩ := (hE'.below hb).at (E.length - 1 - k) (by omega)
      obtain ⟨g2, rfl, hg2, e2, e3, hS2⟩ := (hF'.below hb).at (F.length - 1 - k) (by omega)
      have x1 : (k : Int) + 1 ≤ (E.length : Int) := by omega
      have x2 : (k : Int) + 1 ≤ (F.length : Int) := by omega
      have x3 : ((E.length : Int) - ((k : Int) + 1)).toNat = E.length - 1 - k := by omega
      have x4 : ((F.length : Int) - ((k : Int) + 1)).toNat = F.length - 1 - k := by omega
      have HU : Hid (firstUn (E.map Ent.img).reverse (F.map Ent.img).reverse = if (E[E.length - 1 - k].tag, E[E.length - 1 - k].ss) = (F[F.length - 1 - k].tag, F[F.length - 1 - k].ss) then firstUn ((E.map Ent.img).reverse.drop (k + 1)) ((F.map Ent.img).reverse.drop (k + 1)) else some ((E[E.length - 1 - k].tag, E[E.length - 1 - k].ss), (F[F.length - 1 - k].tag, F[F.length - 1 - k].ss))) := by
        refine HA.out.trans ?_
        rw [firstUn_at _ _ k (by simpa using hlt1) (by simpa using hlt2)]
        simp only [List.getElem_reverse, List.getElem_map, List.length_map]
        rfl
      have Z1 : Hid (E[E.length - 1 - k].ss.length ≤ 2) := HsE.out _ (List.getElem_mem _)
      have Z2 : Hid (F[F.length - 1 - k].ss.length ≤ 2) := HsF.out _ (List.getElem_mem _)
      have hW1 := (hE.1 E[E.length - 1 - k] (List.getElem_mem _)).1
      have hW2 := (hF.1 F[F.length - 1 - k] (List.getElem_mem _)).1
      clear HA
      generalize hx : E[E.length - 1 - k] = ex at *
      generalize hy : F[F.length - 1 - k] = ey at *
      clear hx hy
      obtain ⟨tx, ax, cx, sx⟩ := ex
      obtain ⟨ty, ay, cy, sy⟩ := ey
      simp only at e0 e1 e2 e3 hS1 hS2 hW1 hW2 HU Z1 Z2
      go_wp2_with fail
      have bW := below_two wr (.cells #[.int .i64 tx, .slice ax sx.length cx] 30) (.cells #[.int .i64 ty, .slice ay sy.length cy] 30)
      refine (same_any tx ty ax ay cx cy sx sy _ (hS1.below bW) (hS2.below bW) (Nat.le_trans Z1.out (by omega)) (Nat.le_trans Z2.out (by omega))).mono ?_
      rintro e w1 ⟨rfl, b1⟩
      have b2 := bW.trans (b1.mono bW.size)
      have m1 : Blk w1 wr.heap.size #[.int .i64 tx, .slice ax sx.length cx] 30 := ((Blk.new wr _ _).alloc _).below b1 (by simp only [World.size_alloc]; omega)
      have m2 : Blk w1 (wr.heap.size + 1) #[.int .i64 ty, .slice ay sy.length cy] 30 := by
        have h := Blk.new (wr.alloc (.cells #[.int .i64 tx, .slice ax sx.length cx] 30)) #[.int .i64 ty, .slice ay sy.length cy] 30
        rw [World.size_alloc] at h
        exact h.below b1 (by simp only [World.size_alloc]; omega)
      have n1 := p1.below b2 l1
      have n2 := p2.below b2 l2
      have hb2 := hb.trans (b2.mono hb.size)
      have hS1' := hS1.below b2
      have hS2' := hS2.below b2
      have zz := b2.size
      clear p1 p2 r0 r1 r2 r3 e0 e1 e2 e3 hg1 hg2 b1 bW hE hF
      by_cases hne : (tx, sx) = (ty, sy)
      · have HU2 : Hid (firstUn (E.map Ent.img).reverse (F.map Ent.img).reverse = firstUn ((E.map Ent.img).reverse.drop (k + 1)) ((F.map Ent.img).reverse.drop (k + 1))) := by
          have h := HU.out
          rw [if_pos hne] at h
          exact h
        rw [show alikeP (tx, sx) (ty, sy) = true by simp [alikeP, hne]]
        clear hne HU
        go_wp2
        exact ⟨⟨k + 1, hlt1, hlt2, by go_num, HU2.out, hb2⟩, by simp [intOf]; omega⟩
      · have HU2 : Hid (firstUn (E.map Ent.img).reverse (F.map Ent.img).reverse = some ((tx, sx), (ty, sy))) := by
          have h := HU.out
          rw [if_neg hne] at h
          exact h
        rw [show alikeP (tx, sx) (ty, sy) = false by simp [alikeP]; simpa using hne]
        clear hne HU
        have r0 := n1.cell 0
        have r1 := n1.cell 1
        have r2 := n2.cell 0
        have r3 := n2.cell 1
        have s0 := m1.cell 0
        have s1 := m1.cell 1
        have s2 := m2.cell 0
        have s3 := m2.cell 1
        have f0 := n1.frozen 0
        have f1 := n1.frozen 1
        have f2 := n2.frozen 0
        have f3 := n2.frozen 1
        simp only [List.getElem?_toArray, List.getElem?_cons_succ, List.getElem?_cons_zero] at r0 r1 r2 r3 s0 s1 s2 s3
        have l1' := n1.lt
        have l2' := n2.lt
        go_wp2_with fail
        go_region
        go_wp2
        have bF : Below w.heap.size w ((((w1.setCell ⟨w.heap.size, 0, none⟩ (.int .i64 tx)).setCell ⟨w.heap.size, 1, none⟩ (.slice ax sx.length cx)).setCell ⟨w.heap.size + 1, 0, none⟩ (.int .i64 ty)).setCell ⟨w.heap.size + 1, 1, none⟩ (.slice ay sy.length cy)).drew :=
          (((((bA.trans (hb2.mono bA.size)).setCell (p := ⟨w.heap.size, 0, none⟩) (Nat.le_refl _) _).setCell (p := ⟨w.heap.size, 1, none⟩) (Nat.le_refl _) _).setCell (p := ⟨w.heap.size + 1, 0, none⟩) (Nat.le_succ _) _).setCell (p := ⟨w.heap.size + 1, 1, none⟩) (Nat.le_succ _) _).drew
        have k1 := ((((n1.set 0 (.int .i64 tx)).set 1 (.slice ax sx.length cx)).setOther ⟨w.heap.size + 1, 0, none⟩ (by simp) (.int .i64 ty)).setOther ⟨w.heap.size + 1, 1, none⟩ (by simp) (.slice ay sy.length cy)).drew
        have k2 := ((((n2.setOther ⟨w.heap.size, 0, none⟩ (by simp) (.int .i64 tx)).setOther ⟨w.heap.size, 1, none⟩ (by simp) (.slice ax sx.length cx)).set 0 (.int .i64 ty)).set 1 (.slice ay sy.length cy)).drew
        have r0 := k1.cell 0
        have r1 := k1.cell 1
        have r2 := k2.cell 0
        have r3 := k2.cell 1
        simp only [List.setIfInBounds_toArray, List.set_cons_succ, List.set_cons_zero, List.getElem?_toArray, List.getElem?_cons_succ, List.getElem?_cons_zero] at r0 r1 r2 r3
        clear k1 k2
        generalize ((((w1.setCell ⟨w.heap.size, 0, none⟩ (.int .i64 tx)).setCell ⟨w.heap.size, 1, none⟩ (.slice ax sx.length cx)).setCell ⟨w.heap.size + 1, 0, none⟩ (.int .i64 ty)).setCell ⟨w.heap.size + 1, 1, none⟩ (.slice ay sy.length cy)).drew = wF at *
        refine bodyPost_ret (v := .tuple #[.agg #[.int .i64 tx, .slice ax sx.length cx], .agg #[.int .i64 ty, .slice ay sy.length cy], .bool true]) (by simp [results, Try.results41, go_sem, r0, r1, r2, r3]) rfl ?_
        exact ⟨_, rfl, by rw [HU2.out]; exact ⟨tx, ty, sx, sy, ax, ay, cx, cy, rfl, hW1.below bF, hW2.below bF, Z1.out, Z2.out, rfl⟩, bF⟩
    · have HU2 : Hid (firstUn (E.map Ent.img).reverse (F.map Ent.img).reverse = none) := HA.out.trans (firstUn_end _ _ k (by simp; omega))
      have f0 := p1.frozen 0
      have f1 := p1.frozen 1
      have f2 := p2.frozen 0
      have f3 := p2.frozen 1
      have bF : Below w.heap.size w ((((wr.setCell ⟨w.heap.size, 0, none⟩ (.int .i64 0)).setCell ⟨w.heap.size, 1, none⟩ (.slice none 0 0)).setCell ⟨w.heap.size + 1, 0, none⟩ (.int .i64 0)).setCell ⟨w.heap.size + 1, 1, none⟩ (.slice none 0 0)) :=
          (((((bA.trans (hb.mono bA.size)).setCell (p := ⟨w.heap.size, 0, none⟩) (Nat.le_refl _) _).setCell (p := ⟨w.heap.size, 1, none⟩) (Nat.le_refl _) _).setCell (p := ⟨w.heap.size + 1, 0, none⟩) (Nat.le_succ _) _).setCell (p := ⟨w.heap.size + 1, 1, none⟩) (Nat.le_succ _) _)
      have k1 := ((((p1.set 0 (.int .i64 0)).set 1 (.slice none 0 0)).setOther ⟨w.heap.size + 1, 0, none⟩ (by simp) (.int .i64 0)).setOther ⟨w.heap.size + 1, 1, none⟩ (by simp) (.slice none 0 0))
      have k2 := ((((p2.setOther ⟨w.heap.size, 0, none⟩ (by simp) (.int .i64 0)).setOther ⟨w.heap.size, 1, none⟩ (by simp) (.slice none 0 0)).set 0 (.int .i64 0)).set 1 (.slice none 0 0))
      have q0 := k1.cell 0
      have q1 := k1.cell 1
      have q2 := k2.cell 0
      have q3 := k2.cell 1
      simp only [List.setIfInBounds_toArray, List.set_cons_succ, List.set_cons_zero, List.getElem?_toArray, List.getElem?_cons_succ, List.getElem?_cons_zero] at q0 q1 q2 q3
      clear k1 k2
      by_cases hlt1 : k < E.length
      · have x1 : (k : Int) + 1 ≤ (E.length : Int) := by omega
        have x2 : ¬ (k : Int) + 1 ≤ (F.length : Int) := by omega
        clear hlt
        go_wp2
        generalize ((((wr.setCell ⟨w.heap.size, 0, none⟩ (.int .i64 0)).setCell ⟨w.heap.size, 1, none⟩ (.slice none 0 0)).setCell ⟨w.heap.size + 1, 0, none⟩ (.int .i64 0)).setCell ⟨w.heap.size + 1, 1, none⟩ (.slice none 0 0)) = wF at *
        refine bodyPost_ret (v := .tuple #[.agg #[.int .i64 0, .slice none 0 0], .agg #[.int .i64 0, .slice none 0 0], .bool false]) (by simp [results, Try.results41, go_sem, q0, q1, q2, q3]) rfl ?_
        exact ⟨_, rfl, by rw [HU2.out]; exact told_none _, bF⟩
      · have x1 : ¬ (k : Int) + 1 ≤ (E.length : Int) := by omega
        clear hlt
        go_wp2
        generalize ((((wr.setCell ⟨w.heap.size, 0, none⟩ (.int .i64 0)).setCell ⟨w.heap.size, 1, none⟩ (.slice none 0 0)).setCell ⟨w.heap.size + 1, 0, none⟩ (.int .i64 0)).setCell ⟨w.heap.size + 1, 1, none⟩ (.slice none 0 0)) = wF at *
        refine bodyPost_ret (v := .tuple #[.agg #[.int .i64 0, .slice none 0 0], .agg #[.int .i64 0, .slice none 0 0], .bool false]) (by simp [results, Try.results41, go_sem, q0, q1, q2, q3]) rfl ?_
        exact ⟨_, rfl, by rw [HU2.out]; exact told_none _, bF⟩
end Go.Proofs.Ytabimdlooddcoaa
