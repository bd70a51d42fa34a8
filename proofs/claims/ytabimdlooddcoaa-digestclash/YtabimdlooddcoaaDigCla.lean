/- Clashes (chapter 2, D5): the answer's. -/
import Derived.Test.YtabimdlooddcoaaDigUnl
namespace Go.Proofs.Ytabimdlooddcoaa
open Go.RowKit
set_option linter.unusedVariables false

/-- The way from the root down to a leaf; none, if there is no such path. -/
def wayZ (w : Int) (s : ByteArray) (c i : Int) (ds : List Int) : List (Int × List ByteArray) :=
  if inR c i = true ∧ (turnsP c.toNat i.toNat).length = ds.length then wayP w s c.toNat i.toNat ds else []

theorem wayZ_out (w : Int) (s : ByteArray) (c i : Int) (ds : List Int) (h : inR c i = false) : wayZ w s c i ds = [] := by
  unfold wayZ; rw [h]; simp
theorem wayZ_len (w : Int) (s : ByteArray) (n i : Nat) (ds : List Int) (h : (turnsP n i).length ≠ ds.length) : wayZ w s (n : Int) (i : Int) ds = [] := by
  unfold wayZ
  rw [Int.toNat_natCast, Int.toNat_natCast, if_neg (fun e => h e.2)]
theorem wayZ_yes (w : Int) (s : ByteArray) (n i : Nat) (ds : List Int) (hi : i < n) (hn : n ≤ 1099511627775) (h : (turnsP n i).length = ds.length) : wayZ w s (n : Int) (i : Int) ds = (upP w s (n : Int) (List.zip (turnsP n i) ds)).reverse := by
  unfold wayZ
  rw [Int.toNat_natCast, Int.toNat_natCast, if_pos ⟨inR_in n i hi hn, h⟩]; rfl
theorem leads_wayZ (w root : Int) (s : ByteArray) (c i : Int) (ds : List Int) : leadsP w root (wayZ w s c i ds) = holdsP w root s c i ds := by
  rcases inR_cases2 c i with ⟨ho, _⟩ | ⟨n, k, rfl, rfl, hk, hn⟩
  · rw [wayZ_out _ _ _ _ _ ho, holdsP_out _ _ _ _ _ _ ho]; rfl
  · by_cases h : (turnsP n k).length = ds.length
    · rw [wayZ_yes _ _ _ _ _ hk hn h, leads_up, holdsP_yes _ _ _ _ _ _ hk hn h]
    · rw [wayZ_len _ _ _ _ _ h, holdsP_len _ _ _ _ _ _ h]; rfl
theorem wayZ_small (w : Int) (s : ByteArray) (c i : Int) (ds : List Int) : ∀ x ∈ wayZ w s c i ds, x.2.length ≤ 2 := by
  unfold wayZ
  split
  · intro x hx; exact up_small _ _ _ _ _ (List.mem_reverse.1 hx)
  · simp
/-- What holds has its place and its turns. -/
theorem holdsP_in (w root : Int) (s : ByteArray) (c i : Int) (ds : List Int) (h : holdsP w root s c i ds = true) : ∃ n k : Nat, c = n ∧ i = k ∧ k < n ∧ n ≤ 1099511627775 ∧ (turnsP n k).length = ds.length := by
  rcases inR_cases2 c i with ⟨ho, _⟩ | ⟨n, k, rfl, rfl, hk, hn⟩
  · rw [holdsP_out _ _ _ _ _ _ ho] at h; cases h
  · by_cases hl : (turnsP n k).length = ds.length
    · exact ⟨n, k, rfl, rfl, hk, hn, hl⟩
    · rw [holdsP_len _ _ _ _ _ _ hl] at h; cases h

/-- D5. -/
def clashP (w root : Int) (s : ByteArray) (c i : Int) (ds : List Int) (t : ByteArray) (c' i' : Int) (ds' : List Int) : Option ((Int × List ByteArray) × (Int × List ByteArray)) :=
  if s = t ∨ i ≠ i' ∨ holdsP w root s c i ds = false ∨ holdsP w root t c' i' ds' = false then none
  else firstUn (wayZ w s c i ds) (wayZ w t c' i' ds')

theorem clashP_none (w root : Int) (s : ByteArray) (c i : Int) (ds : List Int) (t : ByteArray) (c' i' : Int) (ds' : List Int) (h : s = t ∨ i ≠ i' ∨ holdsP w root s c i ds = false ∨ holdsP w root t c' i' ds' = false) : clashP w root s c i ds t c' i' ds' = none := if_pos h
theorem clashP_yes (w root : Int) (s : ByteArray) (c i : Int) (ds : List Int) (t : ByteArray) (c' i' : Int) (ds' : List Int) (h1 : s ≠ t) (h2 : i = i') (h3 : holdsP w root s c i ds = true) (h4 : holdsP w root t c' i' ds' = true) : clashP w root s c i ds t c' i' ds' = firstUn (wayZ w s c i ds) (wayZ w t c' i' ds') := if_neg (by rintro (h | h | h | h) <;> simp_all)

/-- Where it is found, the images are unlike and of one digest. -/
theorem clashP_found (w root : Int) (s : ByteArray) (c i : Int) (ds : List Int) (t : ByteArray) (c' i' : Int) (ds' : List Int) (h1 : s ≠ t) (h2 : i = i') (h3 : holdsP w root s c i ds = true) (h4 : holdsP w root t c' i' ds' = true) :
    ∃ x y, clashP w root s c i ds t c' i' ds' = some (x, y) ∧ x ≠ y ∧ ofP w x.1 x.2 = ofP w y.1 y.2 := by
  rw [clashP_yes _ _ _ _ _ _ _ _ _ _ h1 h2 h3 h4]
  subst h2
  obtain ⟨n, k, rfl, rfl, hk, hn, hl⟩ := holdsP_in _ _ _ _ _ _ h3
  obtain ⟨m, k', rfl, hkk, hk', hm, hl'⟩ := holdsP_in _ _ _ _ _ _ h4
  obtain rfl : k' = k := by omega
  rw [holdsP_yes _ _ _ _ _ _ hk hn hl] at h3
  rw [holdsP_yes _ _ _ _ _ _ hk' hm hl'] at h4
  rw [wayZ_yes _ _ _ _ _ hk hn hl, wayZ_yes _ _ _ _ _ hk' hm hl']
  exact ways_part w s t n m k' ds ds' h1 hn hm hl hl' ((eq_of_beq h3).trans (eq_of_beq h4).symm)

theorem way_all (wd c i : Int) (s : ByteArray) (v : Value) (w : World) (ds : List Int) (hw : -9223372036854775808 ≤ wd ∧ wd ≤ 9223372036854775807) (hss : s.size ≤ maxLen) (hr : Row w v (ds.map (Value.int .u64))) (hd : ∀ d ∈ ds, 0 ≤ d ∧ d ≤ 18446744073709551615) :
    Calls Try.prog 37 #[.int .i64 wd, .string s, .agg #[.int .i64 c, .int .i64 i, v]] w fun e w' => ∃ a cap E, e = .returned (.slice a E.length cap) ∧ Imgs w' (.slice a E.length cap) E ∧ Hid (E.map Ent.img = wayZ wd s c i ds) ∧ Below w.heap.size w w' := by
  have nil : ∀ W : World, Imgs W (.slice none 0 0) [] := fun W => ⟨by intro e he; simp at he, .inl ⟨rfl, rfl⟩⟩
  rcases inR_cases2 c i with ⟨ho, hout⟩ | ⟨n, k, rfl, rfl, hk, hn⟩
  · refine (way_range wd c i s _ _ ds hr hout).mono ?_
    rintro e w1 ⟨rfl, b1⟩
    exact ⟨none, 0, [], rfl, nil _, (wayZ_out wd s c i ds ho).symm, b1⟩
  · refine (way_any wd n k s _ _ ds hw hss hr hd hk hn).mono ?_
    rintro e w1 ⟨b1, ⟨hne, rfl⟩ | ⟨he, sv, E, rfl, hI, hM⟩⟩
    · exact ⟨none, 0, [], rfl, nil _, (wayZ_len wd s n k ds hne).symm, b1⟩
    · obtain ⟨a, cap, rfl, _⟩ := hI.form
      exact ⟨a, cap, E, rfl, hI, hM.trans (wayZ_yes wd s n k ds hk hn he).symm, b1⟩

theorem up_all (wd root c i : Int) (s : ByteArray) (v : Value) (w : World) (ds : List Int) (hw : -9223372036854775808 ≤ wd ∧ wd ≤ 9223372036854775807) (hss : s.size ≤ maxLen) (hr : Row w v (ds.map (Value.int .u64))) (hd : ∀ d ∈ ds, 0 ≤ d ∧ d ≤ 18446744073709551615) (hh : holdsP wd root s c i ds = true) :
    Calls Try.prog 38 #[.int .i64 wd, .string s, .agg #[.int .i64 c, .int .i64 i, v]] w fun e w' => ∃ a cap E, e = .returned (.tuple #[.slice a E.length cap, .bool true]) ∧ Imgs w' (.slice a E.length cap) E ∧ Hid ((E.map Ent.img).reverse = wayZ wd s c i ds) ∧ Below w.heap.size w w' := by
  obtain ⟨n, k, rfl, rfl, hk, hn, hl⟩ := holdsP_in _ _ _ _ _ _ hh
  refine (rup_any wd n k s _ _ ds hw hss hr hd hk hn).mono ?_
  rintro e w1 ⟨b1, ⟨hne, rfl⟩ | ⟨he, sv, E, rfl, hO, hE, hM⟩⟩
  · exact absurd hl hne
  · have hO' := hO
    rcases hO.2 with ⟨rfl, h2⟩ | ⟨g, cap, cur, rfl, h2⟩
    · obtain rfl := List.length_eq_zero_iff.1 h2
      exact ⟨none, 0, [], rfl, ⟨hE, .inl ⟨rfl, rfl⟩⟩, by show _ = _; rw [hM, wayZ_yes wd s n k ds hk hn hl], b1⟩
    · obtain ⟨cur', q1, q2, q3, q4, q5⟩ := owns_blk rfl hO'
      exact ⟨_, cap, E, rfl, ⟨hE, .inr ⟨g, cap, cur', rfl, q3, q4, q1, q5⟩⟩, by show _ = _; rw [hM, wayZ_yes wd s n k ds hk hn hl], b1⟩

theorem img_small {E : List Ent} {l : List (Int × List ByteArray)} (h : E.map Ent.img = l) (hl : ∀ x ∈ l, x.2.length ≤ 2) : ∀ e ∈ E, e.ss.length ≤ 2 := fun e he => by
  have h1 : e.img ∈ E.map Ent.img := List.mem_map.2 ⟨e, he, rfl⟩
  rw [h] at h1
  exact hl _ h1
theorem img_small_rev {E : List Ent} {l : List (Int × List ByteArray)} (h : (E.map Ent.img).reverse = l) (hl : ∀ x ∈ l, x.2.length ≤ 2) : ∀ e ∈ E, e.ss.length ≤ 2 := fun e he => by
  have h1 : e.img ∈ (E.map Ent.img).reverse := List.mem_reverse.2 (List.mem_map.2 ⟨e, he, rfl⟩)
  rw [h] at h1
  exact hl _ h1

theorem below_four (w : World) (o p q r : Obj) : Below w.heap.size w ((((w.alloc o).alloc p).alloc q).alloc r) :=
  ((((Below.refl _ _).alloc (Nat.le_refl _) o).alloc (by simp only [World.size_alloc]; omega) p).alloc (by simp only [World.size_alloc]; omega) q).alloc (by simp only [World.size_alloc]; omega) r
theorem blk_four (w : World) (c1 c2 c3 c4 : Array Value) (t1 t2 t3 t4 : TypeId) :
    Blk ((((w.alloc (.cells c1 t1)).alloc (.cells c2 t2)).alloc (.cells c3 t3)).alloc (.cells c4 t4)) w.heap.size c1 t1 ∧
    Blk ((((w.alloc (.cells c1 t1)).alloc (.cells c2 t2)).alloc (.cells c3 t3)).alloc (.cells c4 t4)) (w.heap.size + 1) c2 t2 ∧
    Blk ((((w.alloc (.cells c1 t1)).alloc (.cells c2 t2)).alloc (.cells c3 t3)).alloc (.cells c4 t4)) (w.heap.size + 1 + 1) c3 t3 ∧
    Blk ((((w.alloc (.cells c1 t1)).alloc (.cells c2 t2)).alloc (.cells c3 t3)).alloc (.cells c4 t4)) (w.heap.size + 1 + 1 + 1) c4 t4 := by
  refine ⟨(((Blk.new w _ _).alloc _).alloc _).alloc _, ?_, ?_, ?_⟩
  · have h := ((Blk.new (w.alloc (.cells c1 t1)) c2 t2).alloc (.cells c3 t3)).alloc (.cells c4 t4)
    rw [World.size_alloc] at h; exact h
  · have h := (Blk.new ((w.alloc (.cells c1 t1)).alloc (.cells c2 t2)) c3 t3).alloc (.cells c4 t4)
    rw [World.size_alloc, World.size_alloc] at h; exact h
  · have h := Blk.new (((w.alloc (.cells c1 t1)).alloc (.cells c2 t2)).alloc (.cells c3 t3)) c4 t4
    rw [World.size_alloc, World.size_alloc, World.size_alloc] at h; exact h

/-- The two results' cells behind their four stores. -/
theorem four_stores {w w1 : World} {a b : Nat} {t : TypeId} {x0 x1 y0 y1 : Value} {B : Nat} (hab : a ≠ b) (ha : B ≤ a) (hb : B ≤ b) (u0 u1 v0 v1 : Value) (h1 : Blk w1 a #[x0, x1] t) (h2 : Blk w1 b #[y0, y1] t) (hB : Below B w w1) :
    Below B w ((((w1.setCell ⟨a, 0, none⟩ u0).setCell ⟨a, 1, none⟩ u1).setCell ⟨b, 0, none⟩ v0).setCell ⟨b, 1, none⟩ v1) ∧
    ((((w1.setCell ⟨a, 0, none⟩ u0).setCell ⟨a, 1, none⟩ u1).setCell ⟨b, 0, none⟩ v0).setCell ⟨b, 1, none⟩ v1).cell? ⟨a, 0, none⟩ = some u0 ∧
    ((((w1.setCell ⟨a, 0, none⟩ u0).setCell ⟨a, 1, none⟩ u1).setCell ⟨b, 0, none⟩ v0).setCell ⟨b, 1, none⟩ v1).cell? ⟨a, 1, none⟩ = some u1 ∧
    ((((w1.setCell ⟨a, 0, none⟩ u0).setCell ⟨a, 1, none⟩ u1).setCell ⟨b, 0, none⟩ v0).setCell ⟨b, 1, none⟩ v1).cell? ⟨b, 0, none⟩ = some v0 ∧
    ((((w1.setCell ⟨a, 0, none⟩ u0).setCell ⟨a, 1, none⟩ u1).setCell ⟨b, 0, none⟩ v0).setCell ⟨b, 1, none⟩ v1).cell? ⟨b, 1, none⟩ = some v1 := by
  have k1 := ((((h1.set 0 u0).set 1 u1).setOther ⟨b, 0, none⟩ hab v0).setOther ⟨b, 1, none⟩ hab v1)
  have k2 := ((((h2.setOther ⟨a, 0, none⟩ (Ne.symm hab) u0).setOther ⟨a, 1, none⟩ (Ne.symm hab) u1).set 0 v0).set 1 v1)
  refine ⟨(((hB.setCell (p := ⟨a, 0, none⟩) ha _).setCell (p := ⟨a, 1, none⟩) ha _).setCell (p := ⟨b, 0, none⟩) hb _).setCell (p := ⟨b, 1, none⟩) hb _, ?_, ?_, ?_, ?_⟩
  · rw [k1.cell 0]; rfl
  · rw [k1.cell 1]; rfl
  · rw [k2.cell 0]; rfl
  · rw [k2.cell 1]; rfl

/-- Strings lie in no image's own cells. -/
theorem strs_four {w : World} {z : Option Addr} {ss : List ByteArray} (h : Strs w z ss) {a b : Nat} {t : TypeId} {x y : Int} {a1 a2 : Option Addr} {n1 n2 c1 c2 : Nat} (h1 : Blk w a #[.int .i64 x, .slice a1 n1 c1] t) (h2 : Blk w b #[.int .i64 y, .slice a2 n2 c2] t) (u0 u1 v0 v1 : Value) :
    Strs ((((w.setCell ⟨a, 0, none⟩ u0).setCell ⟨a, 1, none⟩ u1).setCell ⟨b, 0, none⟩ v0).setCell ⟨b, 1, none⟩ v1) z ss := by
  refine ⟨h.1, ?_⟩
  rcases h.2 with h0 | ⟨g, off, rfl, hlt, hc⟩
  · exact .inl h0
  · by_cases h0 : ss = []
    · exact .inl h0
    · have hpos : 0 < ss.length := List.length_pos_iff.2 h0
      have hf := hc 0 hpos
      have key : ∀ {H : Nat} {x : Int} {p : Option Addr} {n c : Nat}, Blk w H #[.int .i64 x, .slice p n c] t → g ≠ H := fun {H x p n c} hB e => by
        subst e
        rw [hB.cell] at hf
        rcases Nat.lt_or_ge (off + 0) 2 with hh | hh
        · have : off + 0 = 0 ∨ off + 0 = 1 := by omega
          rcases this with e | e <;> rw [e] at hf <;> simp at hf
        · rw [Array.getElem?_eq_none (by simpa using hh)] at hf; cases hf
      have ha := key h1
      have hb := key h2
      refine .inr ⟨g, off, rfl, by simp only [size_setCell]; exact hlt, fun i hi => ?_⟩
      rw [cell_off _ _ _ (by exact Ne.symm hb), cell_off _ _ _ (by exact Ne.symm hb), cell_off _ _ _ (by exact Ne.symm ha), cell_off _ _ _ (by exact Ne.symm ha)]
      exact hc i hi

theorem downs_len (w : Int) (s : ByteArray) : ∀ l : List (Bool × Int), (downs w s l).length = l.length + 1
  | [] => rfl
  | (t, d) :: r => by simp [downs, downs_len w s r]
theorem wayZ_length (w : Int) (s : ByteArray) (c i : Int) (ds : List Int) : (wayZ w s c i ds).length ≤ 1099511627780 := by
  rcases inR_cases2 c i with ⟨ho, _⟩ | ⟨n, k, rfl, rfl, hk, hn⟩
  · rw [wayZ_out _ _ _ _ _ ho]; simp
  · by_cases h : (turnsP n k).length = ds.length
    · rw [wayZ_yes _ _ _ _ _ hk hn h, up_rev, List.length_cons, downs_len]
      have := turnsP_len n k (by omega)
      rw [List.length_zip]
      omega
    · rw [wayZ_len _ _ _ _ _ h]; simp

set_option maxHeartbeats 3200000 in
theorem listClash_any (wd root c i c' i' : Int) (s t : ByteArray) (v v' : Value) (w : World) (ds ds' : List Int) (hw : -9223372036854775808 ≤ wd ∧ wd ≤ 9223372036854775807) (hss : s.size ≤ maxLen) (hst : t.size ≤ maxLen)
    (hr : Row w v (ds.map (Value.int .u64))) (hd : ∀ d ∈ ds, 0 ≤ d ∧ d ≤ 18446744073709551615) (hr' : Row w v' (ds'.map (Value.int .u64))) (hd' : ∀ d ∈ ds', 0 ≤ d ∧ d ≤ 18446744073709551615) :
    Calls Try.prog 20 #[.int .i64 wd, .int .u64 root, .string s, .agg #[.int .i64 c, .int .i64 i, v], .string t, .agg #[.int .i64 c', .int .i64 i', v']] w fun e w' => ∃ u, e = .returned u ∧ Told w' (clashP wd root s c i ds t c' i' ds') u ∧ Below w.heap.size w w' := by
  obtain ⟨va, vc, hv⟩ := hr.form
  obtain ⟨va', vc', hv'⟩ := hr'.form
  subst hv hv'
  rw [List.length_map] at *
  rw [List.length_map] at *
  go_enter Try.func20, Try.ntmps20
  go_wp2_with fail
  have bA := below_four w (.cells #[.int .i64 c, .int .i64 i, .slice va ds.length vc] 34) (.cells #[.int .i64 c', .int .i64 i', .slice va' ds'.length vc'] 34) (.cells #[.int .i64 0, .slice none 0 0] 30) (.cells #[.int .i64 0, .slice none 0 0] 30)
  obtain ⟨kP, kQ, kR1, kR2⟩ := blk_four w #[.int .i64 c, .int .i64 i, .slice va ds.length vc] #[.int .i64 c', .int .i64 i', .slice va' ds'.length vc'] #[.int .i64 0, .slice none 0 0] #[.int .i64 0, .slice none 0 0] 34 34 30 30
  generalize ((((w.alloc (.cells #[.int .i64 c, .int .i64 i, .slice va ds.length vc] 34)).alloc (.cells #[.int .i64 c', .int .i64 i', .slice va' ds'.length vc'] 34)).alloc (.cells #[.int .i64 0, .slice none 0 0] 30)).alloc (.cells #[.int .i64 0, .slice none 0 0] 30)) = wA at *
  have rA := hr.below bA
  have rA' := hr'.below bA
  refine (rholds_any wd root c i s _ _ ds hw hss rA hd).mono ?_
  rintro e w1 ⟨rfl, b1⟩
  have c0 := (kP.below b1 kP.lt).cell 0
  have c1 := (kP.below b1 kP.lt).cell 1
  have c2 := (kP.below b1 kP.lt).cell 2
  have d0 := (kQ.below b1 kQ.lt).cell 0
  have d1 := (kQ.below b1 kQ.lt).cell 1
  have d2 := (kQ.below b1 kQ.lt).cell 2
  simp only [List.getElem?_toArray, List.getElem?_cons_succ, List.getElem?_cons_zero] at c0 c1 c2 d0 d1 d2
  go_wp2_with fail
  refine (rholds_any wd root c' i' t _ _ ds' hw hst (rA'.below b1) hd').mono ?_
  rintro e w2 ⟨rfl, b2'⟩
  have b2 := b1.trans (b2'.mono b1.size)
  clear b1 b2' c0 c1 c2 d0 d1 d2
  have kP2 := kP.below b2 kP.lt
  have kQ2 := kQ.below b2 kQ.lt
  have k12 := kR1.below b2 kR1.lt
  have k22 := kR2.below b2 kR2.lt
  have c0 := kP2.cell 0
  have c1 := kP2.cell 1
  have c2 := kP2.cell 2
  have d0 := kQ2.cell 0
  have d1 := kQ2.cell 1
  have d2 := kQ2.cell 2
  have r0 := k12.cell 0
  have r1 := k12.cell 1
  have r2 := k22.cell 0
  have r3 := k22.cell 1
  have f0 := k12.frozen 0
  have f1 := k12.frozen 1
  have f2 := k22.frozen 0
  have f3 := k22.frozen 1
  simp only [List.getElem?_toArray, List.getElem?_cons_succ, List.getElem?_cons_zero] at c0 c1 c2 d0 d1 d2 r0 r1 r2 r3
  have z1 := kP2.lt
  have z2 := kQ2.lt
  have z3 := k12.lt
  have z4 := k22.lt
  have rr := rA.below b2
  have rr' := rA'.below b2
  have bb := bA.trans (b2.mono bA.size)
  obtain ⟨bF, q0, q1, q2, q3⟩ := four_stores (w := w) (B := w.heap.size) (show w.heap.size + 1 + 1 ≠ w.heap.size + 1 + 1 + 1 by omega) (by omega) (by omega) (.int .i64 0) (.slice none 0 0) (.int .i64 0) (.slice none 0 0) k12 k22 bb
  clear kP kQ kR1 kR2 rA rA' b2 bA hr hr'
  by_cases e1 : s = t
  · have t1 : (s.toList == t.toList) = true := by simp [e1]
    have HC : Hid (clashP wd root s c i ds t c' i' ds' = none) := clashP_none _ _ _ _ _ _ _ _ _ _ (.inl e1)
    clear e1
    go_wp2_with fail
    generalize ((((w2.setCell ⟨w.heap.size + 1 + 1, 0, none⟩ (.int .i64 0)).setCell ⟨w.heap.size + 1 + 1, 1, none⟩ (.slice none 0 0)).setCell ⟨w.heap.size + 1 + 1 + 1, 0, none⟩ (.int .i64 0)).setCell ⟨w.heap.size + 1 + 1 + 1, 1, none⟩ (.slice none 0 0)) = wF at *
    refine bodyPost_ret (v := .tuple #[.agg #[.int .i64 0, .slice none 0 0], .agg #[.int .i64 0, .slice none 0 0], .bool false]) (by simp [results, Try.results20, go_sem, q0, q1, q2, q3]) rfl ?_
    exact ⟨_, rfl, by rw [HC.out]; exact told_none _, bF⟩
  · have t1 : (s.toList == t.toList) = false := by simp only [beq_eq_false_iff_ne, ne_eq]; exact fun e => e1 (bytes_eq e)
    by_cases e2 : i = i'
    · have t2 : (i != i') = false := by simp [e2]
      by_cases h3 : holdsP wd root s c i ds = true
      · by_cases h4 : holdsP wd root t c' i' ds' = true
        · have HC : Hid (clashP wd root s c i ds t c' i' ds' = firstUn (wayZ wd s c i ds) (wayZ wd t c' i' ds')) := clashP_yes _ _ _ _ _ _ _ _ _ _ e1 e2 h3 h4
          have H3 := show Hid (_ = _) from h3
          have H4 := show Hid (_ = _) from h4
          rw [h3, h4]
          clear h3 h4 e1 e2 bF q0 q1 q2 q3
          go_wp2_with fail
          refine (up_all wd root c i s _ _ ds hw hss rr hd H3.out).mono ?_
          rintro e w3 ⟨a3, cp3, E, rfl, hI3, HM3, b3⟩
          have kQ3 := kQ2.below b3 kQ2.lt
          have k13 := k12.below b3 k12.lt
          have k23 := k22.below b3 k22.lt
          have bb3 := bb.trans (b3.mono bb.size)
          have rr3 := rr'.below b3
          clear c0 c1 c2 d0 d1 d2 r0 r1 r2 r3 f0 f1 f2 f3
          have d0 := kQ3.cell 0
          have d1 := kQ3.cell 1
          have d2 := kQ3.cell 2
          simp only [List.getElem?_toArray, List.getElem?_cons_succ, List.getElem?_cons_zero] at d0 d1 d2
          go_wp2_with fail
          refine (up_all wd root c' i' t _ _ ds' hw hst rr3 hd' H4.out).mono ?_
          rintro e w4 ⟨a4, cp4, F, rfl, hI4, HM4, b4⟩
          have k14 := k13.below b4 k13.lt
          have k24 := k23.below b4 k23.lt
          have bb4 := bb3.trans (b4.mono bb3.size)
          have hI3' := hI3.below b4
          clear d0 d1 d2
          go_wp2_with fail
          have g3 : E.length ≤ 1099511627780 := by
            have h := wayZ_length wd s c i ds
            rw [← HM3.out, List.length_reverse, List.length_map] at h
            exact h
          have g4 : F.length ≤ 1099511627780 := by
            have h := wayZ_length wd t c' i' ds'
            rw [← HM4.out, List.length_reverse, List.length_map] at h
            exact h
          refine (unlike_any a3 a4 cp3 cp4 E F _ hI3' hI4 (by omega) (by omega) (img_small_rev HM3.out (wayZ_small _ _ _ _ _)) (img_small_rev HM4.out (wayZ_small _ _ _ _ _))).mono ?_
          rintro e w5 ⟨u, rfl, ⟨t1, t2, s1, s2, a1, a2, cc1, cc2, rfl, hS1, hS2, l1, l2, ho⟩, b5⟩
          have k15 := k14.below b5 k14.lt
          have k25 := k24.below b5 k24.lt
          have bb5 := bb4.trans (b5.mono bb4.size)
          have f0 := k15.frozen 0
          have f1 := k15.frozen 1
          have f2 := k25.frozen 0
          have f3 := k25.frozen 1
          have r0 := k15.cell 0
          have r1 := k15.cell 1
          have r2 := k25.cell 0
          have r3 := k25.cell 1
          simp only [List.getElem?_toArray, List.getElem?_cons_succ, List.getElem?_cons_zero] at r0 r1 r2 r3
          obtain ⟨bF, q0, q1, q2, q3⟩ := four_stores (w := w) (B := w.heap.size) (show w.heap.size + 1 + 1 ≠ w.heap.size + 1 + 1 + 1 by omega) (by omega) (by omega) (.int .i64 t1) (.slice a1 s1.length cc1) (.int .i64 t2) (.slice a2 s2.length cc2) k15 k25 bb5
          have hT1 := strs_four hS1 k15 k25 (.int .i64 t1) (.slice a1 s1.length cc1) (.int .i64 t2) (.slice a2 s2.length cc2)
          have hT2 := strs_four hS2 k15 k25 (.int .i64 t1) (.slice a1 s1.length cc1) (.int .i64 t2) (.slice a2 s2.length cc2)
          have Ho := show Hid (_ = _) from ho
          clear ho
          go_wp2_with fail
          generalize ((((w5.setCell ⟨w.heap.size + 1 + 1, 0, none⟩ (.int .i64 t1)).setCell ⟨w.heap.size + 1 + 1, 1, none⟩ (.slice a1 s1.length cc1)).setCell ⟨w.heap.size + 1 + 1 + 1, 0, none⟩ (.int .i64 t2)).setCell ⟨w.heap.size + 1 + 1 + 1, 1, none⟩ (.slice a2 s2.length cc2)) = wF at *
          refine bodyPost_ret (v := .tuple #[.agg #[.int .i64 t1, .slice a1 s1.length cc1], .agg #[.int .i64 t2, .slice a2 s2.length cc2], .bool (firstUn (E.map Ent.img).reverse (F.map Ent.img).reverse).isSome]) (by simp [results, Try.results20, go_sem, q0, q1, q2, q3]) rfl ?_
          refine ⟨_, rfl, ?_, bF⟩
          rw [HC.out, ← HM3.out, ← HM4.out]
          exact ⟨t1, t2, s1, s2, a1, a2, cc1, cc2, rfl, hT1, hT2, l1, l2, Ho.out⟩
        · have h4' : holdsP wd root t c' i' ds' = false := by simpa using h4
          have HC : Hid (clashP wd root s c i ds t c' i' ds' = none) := clashP_none _ _ _ _ _ _ _ _ _ _ (.inr (.inr (.inr h4')))
          rw [h3, h4']
          clear h3 h4 h4' e1 e2
          go_wp2_with fail
          generalize ((((w2.setCell ⟨w.heap.size + 1 + 1, 0, none⟩ (.int .i64 0)).setCell ⟨w.heap.size + 1 + 1, 1, none⟩ (.slice none 0 0)).setCell ⟨w.heap.size + 1 + 1 + 1, 0, none⟩ (.int .i64 0)).setCell ⟨w.heap.size + 1 + 1 + 1, 1, none⟩ (.slice none 0 0)) = wF at *
          refine bodyPost_ret (v := .tuple #[.agg #[.int .i64 0, .slice none 0 0], .agg #[.int .i64 0, .slice none 0 0], .bool false]) (by simp [results, Try.results20, go_sem, q0, q1, q2, q3]) rfl ?_
          exact ⟨_, rfl, by rw [HC.out]; exact told_none _, bF⟩
      · have h3' : holdsP wd root s c i ds = false := by simpa using h3
        have HC : Hid (clashP wd root s c i ds t c' i' ds' = none) := clashP_none _ _ _ _ _ _ _ _ _ _ (.inr (.inr (.inl h3')))
        rw [h3']
        clear h3 h3' e1 e2
        go_wp2_with fail
        generalize ((((w2.setCell ⟨w.heap.size + 1 + 1, 0, none⟩ (.int .i64 0)).setCell ⟨w.heap.size + 1 + 1, 1, none⟩ (.slice none 0 0)).setCell ⟨w.heap.size + 1 + 1 + 1, 0, none⟩ (.int .i64 0)).setCell ⟨w.heap.size + 1 + 1 + 1, 1, none⟩ (.slice none 0 0)) = wF at *
        refine bodyPost_ret (v := .tuple #[.agg #[.int .i64 0, .slice none 0 0], .agg #[.int .i64 0, .slice none 0 0], .bool false]) (by simp [results, Try.results20, go_sem, q0, q1, q2, q3]) rfl ?_
        exact ⟨_, rfl, by rw [HC.out]; exact told_none _, bF⟩
    · have t2 : (i != i') = true := by simp [e2]
      have HC : Hid (clashP wd root s c i ds t c' i' ds' = none) := clashP_none _ _ _ _ _ _ _ _ _ _ (.inr (.inl e2))
      clear e1 e2
      go_wp2_with fail
      generalize ((((w2.setCell ⟨w.heap.size + 1 + 1, 0, none⟩ (.int .i64 0)).setCell ⟨w.heap.size + 1 + 1, 1, none⟩ (.slice none 0 0)).setCell ⟨w.heap.size + 1 + 1 + 1, 0, none⟩ (.int .i64 0)).setCell ⟨w.heap.size + 1 + 1 + 1, 1, none⟩ (.slice none 0 0)) = wF at *
      refine bodyPost_ret (v := .tuple #[.agg #[.int .i64 0, .slice none 0 0], .agg #[.int .i64 0, .slice none 0 0], .bool false]) (by simp [results, Try.results20, go_sem, q0, q1, q2, q3]) rfl ?_
      exact ⟨_, rfl, by rw [HC.out]; exact told_none _, bF⟩
end Go.Proofs.Ytabimdlooddcoaa
