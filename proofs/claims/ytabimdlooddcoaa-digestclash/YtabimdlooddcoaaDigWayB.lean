/- The program's way up from a leaf (chapter 2, D4). -/
import Derived.Test.YtabimdlooddcoaaDigWay
import Derived.Deep.RegionHeld3
namespace Go.Proofs.Ytabimdlooddcoaa
open Go.RowKit
set_option linter.unusedVariables false

theorem tagB : ∀ (H : Nat) (b off : Nat), (some (⟨b, off, none⟩ : Addr)) = some ⟨H, 0, none⟩ → b = H := fun H b off h => congrArg Addr.block (Option.some.inj h)

theorem turnsP_len : ∀ (n i : Nat), 1 ≤ n → (turnsP n i).length + 1 ≤ n := by
  intro n
  induction n using Nat.strongRecOn with
  | ind n ih =>
    intro i h1
    by_cases h : n ≤ 1
    · rw [turnsP_one n i h]; simpa using h1
    · have hs := firstP_spec n (by omega)
      by_cases hk : firstP n ≤ i
      · rw [turnsP_right n i (by omega) hk]
        have := ih (n - firstP n) (by omega) (i - firstP n) (by omega)
        simp; omega
      · rw [turnsP_left n i (by omega) hk]
        have := ih (firstP n) (by omega) i (by omega)
        simp; omega

theorem strs_set2 {w : World} {b off : Nat} {ss : List ByteArray} (h : Strs w (some ⟨b, off, none⟩) ss) (H : Nat) (hne : b ≠ H) (v1 v2 : Value) : Strs ((w.setCell ⟨H, 0, none⟩ v1).setCell ⟨H, 1, none⟩ v2) (some ⟨b, off, none⟩) ss := by
  refine ⟨h.1, ?_⟩
  rcases h.2 with h1 | ⟨b', off', hab, hlt, hc⟩
  · exact .inl h1
  · have hb : b' = b := (congrArg Addr.block (Option.some.inj hab)).symm
    refine .inr ⟨b', off', hab, by rw [size_setCell, size_setCell]; exact hlt, fun i hi => ?_⟩
    rw [World.cell?_of_block (w := w) (a := ⟨b', off' + i, none⟩) (by rw [Below.heap_setCell _ _ _ _ (by simp; omega), Below.heap_setCell _ _ _ _ (by simp; omega)])]
    exact hc i hi

theorem owns_set2 {w : World} {base : Nat} {e : TypeId} {size : Nat} {v : Value} {n : Nat} {xs : List Value} (h : w.ownsRow base e size v n xs) (H : Nat) (hne : v.ownBlock ≠ some H) (v1 v2 : Value) : ((w.setCell ⟨H, 0, none⟩ v1).setCell ⟨H, 1, none⟩ v2).ownsRow base e size v n xs := by
  obtain ⟨h1, h2⟩ := h
  refine ⟨h1, ?_⟩
  rcases h2 with h2 | ⟨g, cap, cur, hv, hg, hh, r⟩
  · exact .inl h2
  · subst hv
    have hgn : g ≠ H := fun e => hne (by rw [e]; rfl)
    exact .inr ⟨g, cap, cur, rfl, hg, by rw [Below.heap_setCell _ _ _ _ hgn, Below.heap_setCell _ _ _ _ hgn]; exact hh, r⟩

set_option maxHeartbeats 6400000 in
theorem way_any (wd : Int) (n i : Nat) (s : ByteArray) (v : Value) (w : World) (ds : List Int) (hw : -9223372036854775808 ≤ wd ∧ wd ≤ 9223372036854775807) (hss : s.size ≤ maxLen) (hr : Row w v (ds.map (Value.int .u64))) (hd : ∀ d ∈ ds, 0 ≤ d ∧ d ≤ 18446744073709551615) (hi : i < n) (hn : n ≤ 1099511627775) :
    Calls Try.prog 37 #[.int .i64 wd, .string s, .agg #[.int .i64 n, .int .i64 i, v]] w fun e w' => Below w.heap.size w w' ∧
      (((turnsP n i).length ≠ ds.length ∧ e = .returned (.slice none 0 0)) ∨
       ((turnsP n i).length = ds.length ∧ ∃ sv E, e = .returned sv ∧ Imgs w' sv E ∧ E.map Ent.img = (upP wd s n (List.zip (turnsP n i) ds)).reverse)) := by
  obtain ⟨va, vc, rfl⟩ := hr.form
  have hlen := hr.len
  rw [List.length_map] at *
  unfold maxLen at hlen
  obtain ⟨ii, hii, hi0, hi1, hi2⟩ := info_parts infoImg
  have hi1' : (i : Int) < (n : Int) := by omega
  have g0 : decide ((n : Int) < 1) = false := by simp; omega
  have g1 : decide ((i : Int) < 0) = false := by simp
  have g2 : decide ((n : Int) ≤ (i : Int)) = false := by simp; omega
  have g3 : decide ((1099511627775 : Int) < (n : Int)) = false := by simp; omega
  have g4 : decide (n ≤ i) = false := by simpa using hi
  go_enter Try.func37, Try.ntmps37
  go_wp2_with fail
  refine (turns_any n i _ hi (by omega)).mono ?_
  rintro e w1 ⟨rv, rfl, hown, b1⟩
  have kP1 := (Blk.new w #[.int .i64 n, .int .i64 i, .slice va ds.length vc] 34).below b1 (by simp)
  have hb1 : Below w.heap.size w w1 := ((Below.refl _ _).alloc (Nat.le_refl _) _).trans (b1.mono (by simp))
  rw [World.size_alloc] at hown
  clear b1
  obtain ⟨ra, rc, hrv⟩ := owns_form hown
  subst hrv
  have p0 := kP1.cell 0
  have p2 := kP1.cell 2
  simp only [List.getElem?_toArray, List.getElem?_cons_succ, List.getElem?_cons_zero] at p0 p2
  by_cases hcl : (turnsP n i).length = ds.length
  · have Hz : Hid ((turnsP n i).length = ds.length) := hcl
    have hdn : ds.length ≤ 1099511627775 := by have := turnsP_len n i (by omega); omega
    rw [hcl] at hown ⊢
    clear hcl
    go_wp2_with fail
    refine (leafI_new s _ hss).mono ?_
    rintro e w2 ⟨v2, rfl, ⟨lb, lc, rfl, hlb1, hlb2, hS2⟩, b2⟩
    have kP2 := kP1.below b2 kP1.lt
    have hown2 := owns_below hown b2
    have hb2 : Below w.heap.size w w2 := hb1.trans (b2.mono hb1.size)
    have hrlt : ∀ k, (Value.slice ra ds.length rc).ownBlock = some k → k < w2.heap.size := fun k e => (hown2.lt k e).2
    have hwz : w.heap.size < w2.heap.size := kP2.lt
    clear kP1 hown hb1 b2 p0 p2
    have kL := (Blk.new w2 #[.int .i64 0, .slice (some ⟨lb, 0, none⟩) 1 lc] 30).alloc (.cells #[.int .i64 0, .slice (some ⟨lb, 0, none⟩) 1 lc] 30)
    have hO := World.ownsRow_lit (base := w2.heap.size + 1) (e := 30) (size := 2) (w2.alloc (.cells #[.int .i64 0, .slice (some ⟨lb, 0, none⟩) 1 lc] 30)) #[.int .i64 0, .slice (some ⟨lb, 0, none⟩) 1 lc] 1 (by simp) (by unfold maxLen; omega) rfl
    rw [World.size_alloc] at hO
    have bC : Below w2.heap.size w2 ((w2.alloc (.cells #[.int .i64 0, .slice (some ⟨lb, 0, none⟩) 1 lc] 30)).alloc (.cells #[.int .i64 0, .slice (some ⟨lb, 0, none⟩) 1 lc] 30)) := ((Below.refl _ _).alloc (Nat.le_refl _) _).alloc (by simp) _
    have kP3 := kP2.below bC kP2.lt
    have hown3 := owns_below hown2 bC
    have hS3 := hS2.below bC
    have hb3 := hb2.trans (bC.mono hb2.size)
    have hz3 : w2.heap.size + 2 ≤ ((w2.alloc (.cells #[.int .i64 0, .slice (some ⟨lb, 0, none⟩) 1 lc] 30)).alloc (.cells #[.int .i64 0, .slice (some ⟨lb, 0, none⟩) 1 lc] 30)).heap.size := by simp
    clear kP2 hown2 hS2 hb2 bC hlb1
    go_wp2_with fail
    go_loopw [9, 51] (fun lv tv wv => ∃ (t : Nat) (E0 : List Ent) (tg : Int) (eb ec : Nat) (es : List ByteArray), tv = .int .i64 t ∧ t ≤ ds.length ∧ Hid (E0.length = t) ∧ wv.ownsRow (w2.heap.size + 1) 30 2 lv (t + 1) (flat (E0 ++ [⟨tg, some ⟨eb, 0, none⟩, ec, es⟩])) ∧
        okE wv (E0 ++ [⟨tg, some ⟨eb, 0, none⟩, ec, es⟩]) ∧ Apart lv (E0 ++ [⟨tg, some ⟨eb, 0, none⟩, ec, es⟩]) ∧ OffB w2.heap.size (E0 ++ [⟨tg, some ⟨eb, 0, none⟩, ec, es⟩]) ∧ Blk wv w2.heap.size #[.int .i64 tg, .slice (some ⟨eb, 0, none⟩) es.length ec] 30 ∧ es.length ≤ 2 ∧
        Hid (ofP wd tg es = climbD wd s ((List.zip (turnsP n i) ds).drop (ds.length - t))) ∧ Hid ((E0 ++ [(⟨tg, some ⟨eb, 0, none⟩, ec, es⟩ : Ent)]).map Ent.img = climb wd s ((List.zip (turnsP n i) ds).drop (ds.length - t))) ∧
        w2.heap.size + 2 ≤ wv.heap.size ∧ wv.ownsRow (w.heap.size + 1) 4 1 (.slice ra ds.length rc) ds.length ((turnsP n i).map Value.bool) ∧ Blk wv w.heap.size #[.int .i64 n, .int .i64 i, .slice va ds.length vc] 34 ∧ Below w.heap.size w wv) (fun _ tv _ => ds.length - (intOf tv).toNat)
    case atStart =>
      have hzz : (List.zip (turnsP n i) ds).drop (ds.length - 0) = [] := List.drop_eq_nil_of_le (by simp; omega)
      refine ⟨0, [], 0, lb, lc, [s], rfl, Nat.zero_le _, rfl, hO, ?_, ?_, ?_, kL, by simp, by show _ = _; rw [hzz]; rfl, by show _ = _; rw [hzz]; rfl, hz3, hown3, kP3, hb3⟩
      · intro e he
        simp at he; subst he
        exact ⟨hS3, _, _, rfl, by simp only [World.size_alloc]; omega⟩
      · intro e he b off hab
        simp at he; subst he; simp at hab; simp [Value.ownBlock]; omega
      · intro e he b off hab
        simp at he; subst he; simp at hab; omega
    case round =>
      obtain ⟨t, E0, tg, eb, ec, es, rfl, htl, HE0, hOw, hEw, hAp, hOf, kL, hes, HD, HM, hzw, hrw, kPw, hbw⟩ := hrel
      have l0 := kL.cell 0
      have l1 := kL.cell 1
      have p0 := kPw.cell 0
      have p2 := kPw.cell 2
      simp only [List.getElem?_toArray, List.getElem?_cons_succ, List.getElem?_cons_zero] at l0 l1 p0 p2
      have hSe := (hEw _ (List.mem_append_right _ (List.mem_singleton.2 rfl))).1
      by_cases htlt : t < ds.length
      · have htl' : (t : Int) < (ds.length : Int) := by omega
        obtain ⟨j, hj⟩ : ∃ j, ds.length = t + 1 + j := ⟨ds.length - 1 - t, by omega⟩
        have hjd : j < ds.length := by omega
        have hjj : ((ds.length : Int) - 1 - (t : Int)) = (j : Int) := by omega
        have hj1 : t + 1 + j ≤ ds.length := by omega
        have hj2 : ds.length ≤ t + 1 + j := by omega
        clear hj
        obtain ⟨tt, ht, hzl, hzj⟩ := turns_get n i ds j hjd Hz.out
        have hcs := climb_step wd s (List.zip (turnsP n i) ds) j hzl
        rw [hzj] at hcs
        have hdj := hd ds[j] (List.getElem_mem hjd)
        obtain ⟨b2, o2, rfl, hl2, e2⟩ := (hr.below hbw).at j (by simpa using hjd)
        rw [List.getElem_map] at e2
        obtain ⟨rg, rfl⟩ : ∃ rg, ra = some ⟨rg, 0, none⟩ := by
          rcases hrw.2 with ⟨_, h⟩ | ⟨g, c, cu, h, _⟩
          · omega
          · simp at h; exact ⟨g, h.1⟩
        have hrc : wr.cell? ⟨rg, j, none⟩ = some (.bool tt) := by
          rw [hrw.cellAt j (by omega), List.getElem?_map, ht]; rfl
        have hrg := (hrw.lt rg rfl).2
        have HM' := HM.out
        have HD' := HD.out
        rw [show ds.length - t = j + 1 by omega] at HM' HD'
        rw [← HD', ← HM'] at hcs
        have HM2 := show Hid (_ = _) from hcs.1
        have HD2 : Hid (_ = _) := hcs.2.symm
        clear HM' HD' HM HD
        generalize ds[j] = dj at *
        clear hcs hzj ht
        have hxb := ofP_bd wd tg es
        have hjp : (0 : Int) ≤ (j : Int) := by omega
        have hjl : (j : Int) < (ds.length : Int) := by omega
        go_wp2_with fail
        go_region_held3 (fun w' => w'.cell? ⟨w2.heap.size, 0, none⟩ = some (.int .i64 tg) ∧ w'.cell? ⟨w2.heap.size, 1, none⟩ = some (.slice (some ⟨eb, 0, none⟩) es.length ec) ∧ w'.cell? ⟨w.heap.size, 2, none⟩ = some (.slice (some ⟨b2, o2, none⟩) ds.length vc) ∧ w'.cell? ⟨b2, o2 + j, none⟩ = some (.int .u64 dj)) (go_keep)
          (first
          | (go_at_call 9
             refine (ofImage_any wd tg _ es.length ec es _ hw rfl ?_ ?_).mono ?_
             · (unfold maxLen; omega)
             · exact hSe.below (Below.refl _ _).drew
             rintro e w3 ⟨rfl, b3⟩
             have b23 : Below wr.heap.size wr w3 := ((Below.refl _ _).drew).trans b3
             have x0 : w3.cell? ⟨w2.heap.size, 0, none⟩ = some (.int .i64 tg) := by rw [b23.cell (p := ⟨w2.heap.size, 0, none⟩) kL.lt]; exact l0
             have x1 : w3.cell? ⟨w2.heap.size, 1, none⟩ = some (.slice (some ⟨eb, 0, none⟩) es.length ec) := by rw [b23.cell (p := ⟨w2.heap.size, 1, none⟩) kL.lt]; exact l1
             have x2 : w3.cell? ⟨w.heap.size, 2, none⟩ = some (.slice (some ⟨b2, o2, none⟩) ds.length vc) := by rw [b23.cell (p := ⟨w.heap.size, 2, none⟩) kPw.lt]; exact p2
             have x3 : w3.cell? ⟨b2, o2 + j, none⟩ = some (.int .u64 dj) := by rw [b23.cell (p := ⟨b2, o2 + j, none⟩) hl2]; exact e2))
        have hzw3 : w2.heap.size + 2 ≤ w3.heap.size := Nat.le_trans hzw b23.size
        have kL3 := kL.below b23 kL.lt
        have kP3 := kPw.below b23 kPw.lt
        have hO3 := owns_below hOw b23
        have hE3 := hEw.below b23
        have hr3 := owns_below hrw b23
        have hb3' := hbw.trans (b23.mono hbw.size)
        have hrc3 : w3.cell? ⟨rg, j, none⟩ = some (.bool tt) := by rw [b23.cell (p := ⟨rg, j, none⟩) hrg]; exact hrc
        clear x0 x1 x2 x3 l0 l1 p0 p2 hSe e2 hl2 hrc hrg kL kPw hOw hEw hrw hbw hzw b23 b3
        cases tt
        · go_wp2_with fail
          refine (nodeI_new _ _ _ hxb hdj).mono ?_
          rintro e w4 ⟨v4, rfl, ⟨nb, nc, rfl, hnb1, hnb2, hS4⟩, b4⟩
          have b34 : Below w3.heap.size w3 w4 := b4
          have kL4 := kL3.below b34 kL3.lt
          have kP4 := kP3.below b34 kP3.lt
          have hO4 := owns_below hO3 b34
          have hE4 := hE3.below b34
          have hr4 := owns_below hr3 b34
          have hb4 := hb3'.trans (b34.mono hb3'.size)
          have y0 := kL4.cell 0
          have y1 := kL4.cell 1
          have z0 := kL4.frozen 0
          have z1 := kL4.frozen 1
          have hl4 := kL4.lt
          simp only [List.getElem?_toArray, List.getElem?_cons_succ, List.getElem?_cons_zero] at y0 y1
          have hnb3 : w2.heap.size < nb := by have := kL3.lt; omega
          have hnb4 : nb < w4.heap.size := hnb2
          have kL5 := (kL4.set 0 (.int .i64 1)).set 1 (.slice (some ⟨nb, 0, none⟩) 2 nc)
          have hE5 := (hE4.set hOf 0 (.int .i64 1)).set hOf 1 (.slice (some ⟨nb, 0, none⟩) 2 nc)
          have hO5 := ownsRow_setCell_below (ownsRow_setCell_below hO4 (a := ⟨w2.heap.size, 0, none⟩) (by simp) (.int .i64 1)) (a := ⟨w2.heap.size, 1, none⟩) (by simp) (.slice (some ⟨nb, 0, none⟩) 2 nc)
          have kP5 := (kP4.setOther ⟨w2.heap.size, 0, none⟩ (by simp; omega) (.int .i64 1)).setOther ⟨w2.heap.size, 1, none⟩ (by simp; omega) (.slice (some ⟨nb, 0, none⟩) 2 nc)
          have hS5 := strs_set2 hS4 w2.heap.size (by omega) (.int .i64 1) (.slice (some ⟨nb, 0, none⟩) 2 nc)
          have hr5 := owns_set2 hr4 w2.heap.size (fun e => by have := hrlt _ e; omega) (.int .i64 1) (.slice (some ⟨nb, 0, none⟩) 2 nc)
          have hb5 := (hb4.setCell (p := ⟨w2.heap.size, 0, none⟩) (by simp; omega) (.int .i64 1)).setCell (p := ⟨w2.heap.size, 1, none⟩) (by simp; omega) (.slice (some ⟨nb, 0, none⟩) 2 nc)
          have hz5 : w2.heap.size + 2 ≤ ((w4.setCell ⟨w2.heap.size, 0, none⟩ (.int .i64 1)).setCell ⟨w2.heap.size, 1, none⟩ (.slice (some ⟨nb, 0, none⟩) 2 nc)).heap.size := by rw [size_setCell, size_setCell]; have := b34.size; omega
          have hnb5 : nb < ((w4.setCell ⟨w2.heap.size, 0, none⟩ (.int .i64 1)).setCell ⟨w2.heap.size, 1, none⟩ (.slice (some ⟨nb, 0, none⟩) 2 nc)).heap.size := by rw [size_setCell, size_setCell]; exact hnb4
          have hlv : ∀ k, u9.ownBlock = some k → k < w3.heap.size := fun k e => (hO3.lt k e).2
          clear kL4 kP4 hO4 hE4 hr4 hb4 hS4 b4 b34
          have hsz5 : ((w4.setCell ⟨w2.heap.size, 0, none⟩ (.int .i64 1)).setCell ⟨w2.heap.size, 1, none⟩ (.slice (some ⟨nb, 0, none⟩) 2 nc)).heap.size = w4.heap.size := by rw [size_setCell, size_setCell]
          have hbW : Below ((w4.setCell ⟨w2.heap.size, 0, none⟩ (.int .i64 1)).setCell ⟨w2.heap.size, 1, none⟩ (.slice (some ⟨nb, 0, none⟩) 2 nc)).heap.size ((w4.setCell ⟨w2.heap.size, 0, none⟩ (.int .i64 1)).setCell ⟨w2.heap.size, 1, none⟩ (.slice (some ⟨nb, 0, none⟩) 2 nc)) (((w4.setCell ⟨w2.heap.size, 0, none⟩ (.int .i64 1)).setCell ⟨w2.heap.size, 1, none⟩ (.slice (some ⟨nb, 0, none⟩) 2 nc)).alloc (.cells #[.int .i64 1, .slice (some ⟨nb, 0, none⟩) 2 nc] 30)) := (Below.refl _ _).alloc (Nat.le_refl _) _
          have hE6 := (hE5.below hbW).snoc ⟨1, some ⟨nb, 0, none⟩, nc, (nodeParts false (ofP wd tg es) dj)⟩ ⟨hS5.below hbW, nb, 0, rfl, Nat.lt_of_lt_of_le hnb5 hbW.size⟩
          have hA6 := hAp.snoc ⟨1, some ⟨nb, 0, none⟩, nc, (nodeParts false (ofP wd tg es) dj)⟩ (fun b off hab => by
            have h3 : b = nb := (congrArg Addr.block (Option.some.inj hab)).symm
            intro h2
            have h4 := hlv _ h2
            omega)
          have hOf6 := hOf.snoc ⟨1, some ⟨nb, 0, none⟩, nc, (nodeParts false (ofP wd tg es) dj)⟩ (fun b off hab => by
            have h3 : b = nb := (congrArg Addr.block (Option.some.inj hab)).symm
            omega)
          go_wp2_with (at_builtin; refine wpList_append_lies _ rfl _ _ _ rfl (w2.heap.size + 1) 30 ii (.agg #[.int .i64 0, .slice none 0 0]) 2 32 Try.underlying58 hii hi0 hi1 hi2 rfl (by omega) u9 (t + 1) _ rfl (hO5.alloc _) ⟨w4.heap.size, 0, none⟩ 1 1 [.int .i64 1, .slice (some ⟨nb, 0, none⟩) 2 nc] rfl rfl ?c1 ?c2 (by omega) ?c3 ?c4 ?c5 (w4.heap.size + 1) ?c6 ?_)
          case c1 =>
            have hnw := World.news_of_block (cs := #[.int .i64 1, .slice (some ⟨nb, 0, none⟩) 2 nc]) (t := 30) (fr := (0, 0)) (heap_alloc_new ((w4.setCell ⟨w2.heap.size, 0, none⟩ (.int .i64 1)).setCell ⟨w2.heap.size, 1, none⟩ (.slice (some ⟨nb, 0, none⟩) 2 nc)) _)
            rw [hsz5] at hnw
            exact hnw
          case c2 => intro u hu; simp at hu; rcases hu with rfl | rfl <;> rfl
          case c3 => unfold maxLen; omega
          case c4 => omega
          case c5 => simp only [World.size_alloc]; omega
          case c6 => simp only [World.size_alloc]; omega
          intro g2 cg w6 hown6 hgrow hat hlt
          have hE7 := hE6.grown hgrow hA6
          have hA7 : Apart (.slice (some ⟨g2, 0, none⟩) (t + 1 + 1) cg) ((E0 ++ [⟨tg, some ⟨eb, 0, none⟩, ec, es⟩]) ++ [⟨1, some ⟨nb, 0, none⟩, nc, (nodeParts false (ofP wd tg es) dj)⟩]) := hA6.next hE6 hat (by simp only [World.size_alloc]; omega)
          have kL6 := (kL5.alloc (.cells #[.int .i64 1, .slice (some ⟨nb, 0, none⟩) 2 nc] 30)).grown hgrow (fun e => by have := (hO5.lt _ e).1; omega)
          have kP6 := (kP5.alloc (.cells #[.int .i64 1, .slice (some ⟨nb, 0, none⟩) 2 nc] 30)).grown hgrow (fun e => by have := (hO5.lt _ e).1; omega)
          have hr6 := (hr5.alloc (.cells #[.int .i64 1, .slice (some ⟨nb, 0, none⟩) 2 nc] 30)).kept hgrow (by
            by_cases hne : (Value.slice (some ⟨rg, 0, none⟩) ds.length rc).ownBlock = u9.ownBlock
            · exfalso
              have h1 := hrlt rg rfl
              have h2 := (hO5.lt rg (hne.symm.trans rfl)).1
              omega
            · exact .inr hne)
          have hb6 : Below w.heap.size w w6 := (hb5.alloc (by rw [hsz5]; omega) _).grown hgrow (by simp only [World.size_alloc]; omega) (fun k e => by have := (hO5.lt k e).1; omega)
          have hz6 : w2.heap.size + 2 ≤ w6.heap.size := by have := hgrow.size; simp only [World.size_alloc] at this; omega
          have hown7 : w6.ownsRow (w2.heap.size + 1) 30 2 (.slice (some ⟨g2, 0, none⟩) (t + 1 + 1) cg) (t + 1 + 1) (flat ((E0 ++ [⟨tg, some ⟨eb, 0, none⟩, ec, es⟩]) ++ [⟨1, some ⟨nb, 0, none⟩, nc, (nodeParts false (ofP wd tg es) dj)⟩])) := by rw [flat_snoc]; exact hown6
          have HM3 : Hid (((E0 ++ [(⟨tg, some ⟨eb, 0, none⟩, ec, es⟩ : Ent)]) ++ [(⟨1, some ⟨nb, 0, none⟩, nc, (nodeParts false (ofP wd tg es) dj)⟩ : Ent)]).map Ent.img = climb wd s ((List.zip (turnsP n i) ds).drop (ds.length - (t + 1)))) := by
            show _ = _
            rw [List.map_append, show ds.length - (t + 1) = j by omega, HM2.out]; rfl
          have HD3 : Hid (ofP wd 1 (nodeParts false (ofP wd tg es) dj) = climbD wd s ((List.zip (turnsP n i) ds).drop (ds.length - (t + 1)))) := by
            show _ = _
            rw [show ds.length - (t + 1) = j by omega]; exact HD2.out
          have HL3 : Hid ((E0 ++ [(⟨tg, some ⟨eb, 0, none⟩, ec, es⟩ : Ent)]).length = t + 1) := by show _ = _; rw [List.length_append, HE0.out]; rfl
          clear hown6 hgrow hat hlt hE6 hA6 hbW hE5 hO5 kL5 kP5 hr5 hS5 hb5 hz5 HM2 HD2 hrlt hjj
          go_wp2
          go_roundw
          case rel => exact ⟨t + 1, E0 ++ [⟨tg, some ⟨eb, 0, none⟩, ec, es⟩], 1, nb, nc, (nodeParts false (ofP wd tg es) dj), by go_num, by omega, HL3, hown7, hE7, hA7, hOf6, kL6, Nat.le_refl _, HD3, HM3, hz6, hr6, kP6, hb6⟩
          case measure => simp [intOf]; omega
        · go_wp2_with fail
          refine (nodeI_new _ _ _ hdj hxb).mono ?_
          rintro e w4 ⟨v4, rfl, ⟨nb, nc, rfl, hnb1, hnb2, hS4⟩, b4⟩
          have b34 : Below w3.heap.size w3 w4 := b4
          have kL4 := kL3.below b34 kL3.lt
          have kP4 := kP3.below b34 kP3.lt
          have hO4 := owns_below hO3 b34
          have hE4 := hE3.below b34
          have hr4 := owns_below hr3 b34
          have hb4 := hb3'.trans (b34.mono hb3'.size)
          have y0 := kL4.cell 0
          have y1 := kL4.cell 1
          have z0 := kL4.frozen 0
          have z1 := kL4.frozen 1
          have hl4 := kL4.lt
          simp only [List.getElem?_toArray, List.getElem?_cons_succ, List.getElem?_cons_zero] at y0 y1
          have hnb3 : w2.heap.size < nb := by have := kL3.lt; omega
          have hnb4 : nb < w4.heap.size := hnb2
          have kL5 := (kL4.set 0 (.int .i64 1)).set 1 (.slice (some ⟨nb, 0, none⟩) 2 nc)
          have hE5 := (hE4.set hOf 0 (.int .i64 1)).set hOf 1 (.slice (some ⟨nb, 0, none⟩) 2 nc)
          have hO5 := ownsRow_setCell_below (ownsRow_setCell_below hO4 (a := ⟨w2.heap.size, 0, none⟩) (by simp) (.int .i64 1)) (a := ⟨w2.heap.size, 1, none⟩) (by simp) (.slice (some ⟨nb, 0, none⟩) 2 nc)
          have kP5 := (kP4.setOther ⟨w2.heap.size, 0, none⟩ (by simp; omega) (.int .i64 1)).setOther ⟨w2.heap.size, 1, none⟩ (by simp; omega) (.slice (some ⟨nb, 0, none⟩) 2 nc)
          have hS5 := strs_set2 hS4 w2.heap.size (by omega) (.int .i64 1) (.slice (some ⟨nb, 0, none⟩) 2 nc)
          have hr5 := owns_set2 hr4 w2.heap.size (fun e => by have := hrlt _ e; omega) (.int .i64 1) (.slice (some ⟨nb, 0, none⟩) 2 nc)
          have hb5 := (hb4.setCell (p := ⟨w2.heap.size, 0, none⟩) (by simp; omega) (.int .i64 1)).setCell (p := ⟨w2.heap.size, 1, none⟩) (by simp; omega) (.slice (some ⟨nb, 0, none⟩) 2 nc)
          have hz5 : w2.heap.size + 2 ≤ ((w4.setCell ⟨w2.heap.size, 0, none⟩ (.int .i64 1)).setCell ⟨w2.heap.size, 1, none⟩ (.slice (some ⟨nb, 0, none⟩) 2 nc)).heap.size := by rw [size_setCell, size_setCell]; have := b34.size; omega
          have hnb5 : nb < ((w4.setCell ⟨w2.heap.size, 0, none⟩ (.int .i64 1)).setCell ⟨w2.heap.size, 1, none⟩ (.slice (some ⟨nb, 0, none⟩) 2 nc)).heap.size := by rw [size_setCell, size_setCell]; exact hnb4
          have hlv : ∀ k, u9.ownBlock = some k → k < w3.heap.size := fun k e => (hO3.lt k e).2
          clear kL4 kP4 hO4 hE4 hr4 hb4 hS4 b4 b34
          have hsz5 : ((w4.setCell ⟨w2.heap.size, 0, none⟩ (.int .i64 1)).setCell ⟨w2.heap.size, 1, none⟩ (.slice (some ⟨nb, 0, none⟩) 2 nc)).heap.size = w4.heap.size := by rw [size_setCell, size_setCell]
          have hbW : Below ((w4.setCell ⟨w2.heap.size, 0, none⟩ (.int .i64 1)).setCell ⟨w2.heap.size, 1, none⟩ (.slice (some ⟨nb, 0, none⟩) 2 nc)).heap.size ((w4.setCell ⟨w2.heap.size, 0, none⟩ (.int .i64 1)).setCell ⟨w2.heap.size, 1, none⟩ (.slice (some ⟨nb, 0, none⟩) 2 nc)) (((w4.setCell ⟨w2.heap.size, 0, none⟩ (.int .i64 1)).setCell ⟨w2.heap.size, 1, none⟩ (.slice (some ⟨nb, 0, none⟩) 2 nc)).alloc (.cells #[.int .i64 1, .slice (some ⟨nb, 0, none⟩) 2 nc] 30)) := (Below.refl _ _).alloc (Nat.le_refl _) _
          have hE6 := (hE5.below hbW).snoc ⟨1, some ⟨nb, 0, none⟩, nc, (nodeParts true (ofP wd tg es) dj)⟩ ⟨hS5.below hbW, nb, 0, rfl, Nat.lt_of_lt_of_le hnb5 hbW.size⟩
          have hA6 := hAp.snoc ⟨1, some ⟨nb, 0, none⟩, nc, (nodeParts true (ofP wd tg es) dj)⟩ (fun b off hab => by
            have h3 : b = nb := (congrArg Addr.block (Option.some.inj hab)).symm
            intro h2
            have h4 := hlv _ h2
            omega)
          have hOf6 := hOf.snoc ⟨1, some ⟨nb, 0, none⟩, nc, (nodeParts true (ofP wd tg es) dj)⟩ (fun b off hab => by
            have h3 : b = nb := (congrArg Addr.block (Option.some.inj hab)).symm
            omega)
          go_wp2_with (at_builtin; refine wpList_append_lies _ rfl _ _ _ rfl (w2.heap.size + 1) 30 ii (.agg #[.int .i64 0, .slice none 0 0]) 2 32 Try.underlying58 hii hi0 hi1 hi2 rfl (by omega) u9 (t + 1) _ rfl (hO5.alloc _) ⟨w4.heap.size, 0, none⟩ 1 1 [.int .i64 1, .slice (some ⟨nb, 0, none⟩) 2 nc] rfl rfl ?c1 ?c2 (by omega) ?c3 ?c4 ?c5 (w4.heap.size + 1) ?c6 ?_)
          case c1 =>
            have hnw := World.news_of_block (cs := #[.int .i64 1, .slice (some ⟨nb, 0, none⟩) 2 nc]) (t := 30) (fr := (0, 0)) (heap_alloc_new ((w4.setCell ⟨w2.heap.size, 0, none⟩ (.int .i64 1)).setCell ⟨w2.heap.size, 1, none⟩ (.slice (some ⟨nb, 0, none⟩) 2 nc)) _)
            rw [hsz5] at hnw
            exact hnw
          case c2 => intro u hu; simp at hu; rcases hu with rfl | rfl <;> rfl
          case c3 => unfold maxLen; omega
          case c4 => omega
          case c5 => simp only [World.size_alloc]; omega
          case c6 => simp only [World.size_alloc]; omega
          intro g2 cg w6 hown6 hgrow hat hlt
          have hE7 := hE6.grown hgrow hA6
          have hA7 : Apart (.slice (some ⟨g2, 0, none⟩) (t + 1 + 1) cg) ((E0 ++ [⟨tg, some ⟨eb, 0, none⟩, ec, es⟩]) ++ [⟨1, some ⟨nb, 0, none⟩, nc, (nodeParts true (ofP wd tg es) dj)⟩]) := hA6.next hE6 hat (by simp only [World.size_alloc]; omega)
          have kL6 := (kL5.alloc (.cells #[.int .i64 1, .slice (some ⟨nb, 0, none⟩) 2 nc] 30)).grown hgrow (fun e => by have := (hO5.lt _ e).1; omega)
          have kP6 := (kP5.alloc (.cells #[.int .i64 1, .slice (some ⟨nb, 0, none⟩) 2 nc] 30)).grown hgrow (fun e => by have := (hO5.lt _ e).1; omega)
          have hr6 := (hr5.alloc (.cells #[.int .i64 1, .slice (some ⟨nb, 0, none⟩) 2 nc] 30)).kept hgrow (by
            by_cases hne : (Value.slice (some ⟨rg, 0, none⟩) ds.length rc).ownBlock = u9.ownBlock
            · exfalso
              have h1 := hrlt rg rfl
              have h2 := (hO5.lt rg (hne.symm.trans rfl)).1
              omega
            · exact .inr hne)
          have hb6 : Below w.heap.size w w6 := (hb5.alloc (by rw [hsz5]; omega) _).grown hgrow (by simp only [World.size_alloc]; omega) (fun k e => by have := (hO5.lt k e).1; omega)
          have hz6 : w2.heap.size + 2 ≤ w6.heap.size := by have := hgrow.size; simp only [World.size_alloc] at this; omega
          have hown7 : w6.ownsRow (w2.heap.size + 1) 30 2 (.slice (some ⟨g2, 0, none⟩) (t + 1 + 1) cg) (t + 1 + 1) (flat ((E0 ++ [⟨tg, some ⟨eb, 0, none⟩, ec, es⟩]) ++ [⟨1, some ⟨nb, 0, none⟩, nc, (nodeParts true (ofP wd tg es) dj)⟩])) := by rw [flat_snoc]; exact hown6
          have HM3 : Hid (((E0 ++ [(⟨tg, some ⟨eb, 0, none⟩, ec, es⟩ : Ent)]) ++ [(⟨1, some ⟨nb, 0, none⟩, nc, (nodeParts true (ofP wd tg es) dj)⟩ : Ent)]).map Ent.img = climb wd s ((List.zip (turnsP n i) ds).drop (ds.length - (t + 1)))) := by
            show _ = _
            rw [List.map_append, show ds.length - (t + 1) = j by omega, HM2.out]; rfl
          have HD3 : Hid (ofP wd 1 (nodeParts true (ofP wd tg es) dj) = climbD wd s ((List.zip (turnsP n i) ds).drop (ds.length - (t + 1)))) := by
            show _ = _
            rw [show ds.length - (t + 1) = j by omega]; exact HD2.out
          have HL3 : Hid ((E0 ++ [(⟨tg, some ⟨eb, 0, none⟩, ec, es⟩ : Ent)]).length = t + 1) := by show _ = _; rw [List.length_append, HE0.out]; rfl
          clear hown6 hgrow hat hlt hE6 hA6 hbW hE5 hO5 kL5 kP5 hr5 hS5 hb5 hz5 HM2 HD2 hrlt hjj
          go_wp2
          go_roundw
          case rel => exact ⟨t + 1, E0 ++ [⟨tg, some ⟨eb, 0, none⟩, ec, es⟩], 1, nb, nc, (nodeParts true (ofP wd tg es) dj), by go_num, by omega, HL3, hown7, hE7, hA7, hOf6, kL6, Nat.le_refl _, HD3, HM3, hz6, hr6, kP6, hb6⟩
          case measure => simp [intOf]; omega
      · obtain rfl : t = ds.length := by omega
        have hcN : ((ds.length : Int) < (ds.length : Int)) = False := by simp
        have HMz : Hid ((E0 ++ [(⟨tg, some ⟨eb, 0, none⟩, ec, es⟩ : Ent)]).map Ent.img = climb wd s (List.zip (turnsP n i) ds)) := by
          show _ = _
          rw [HM.out, Nat.sub_self]; rfl
        have HDz : Hid (ofP wd tg es = climbD wd s (List.zip (turnsP n i) ds)) := by
          show _ = _
          rw [HD.out, Nat.sub_self]; rfl
        clear HM HD hcN
        have hxb := ofP_bd wd tg es
        have hlv : ∀ k, u9.ownBlock = some k → w2.heap.size + 1 ≤ k ∧ k < wr.heap.size := fun k e => hOw.lt k e
        go_wp2_with fail
        go_region_held3 (fun w' => w'.cell? ⟨w2.heap.size, 0, none⟩ = some (.int .i64 tg) ∧ w'.cell? ⟨w2.heap.size, 1, none⟩ = some (.slice (some ⟨eb, 0, none⟩) es.length ec) ∧ w'.cell? ⟨w.heap.size, 0, none⟩ = some (.int .i64 n)) (go_keep)
          (first
          | (refine step_append_lies _ (by rfl) _ _ _ (by rfl) (w2.heap.size + 1) 30 ii (.agg #[.int .i64 0, .slice none 0 0]) 2 32 Try.underlying58 hii hi0 hi1 hi2 rfl (by omega) u9 (ds.length + 1) (flat (E0 ++ [⟨tg, some ⟨eb, 0, none⟩, ec, es⟩])) (by rfl) (hO5.alloc _) ⟨w5.heap.size, 0, none⟩ 1 1 [.int .i64 2, .slice (some ⟨nb, 0, none⟩) 2 nc] (by rfl) (by rfl) (World.news_of_block (cs := #[.int .i64 2, .slice (some ⟨nb, 0, none⟩) 2 nc]) (t := 30) (fr := (0, 0)) (heap_alloc_new w5 _)) (by simp [Value.oneCell']) (by omega) (by unfold maxLen; omega) (by omega) (by simp; omega) (w5.heap.size + 1) (by simp) ?_
             intro g2 cg w6 hown6 hgrow hat hlt
             have kL6 := ((kL.below b25 kL.lt).alloc (.cells #[.int .i64 2, .slice (some ⟨nb, 0, none⟩) 2 nc] 30)).grown hgrow (fun e => by have := hlv _ e; omega)
             have kP6 := ((kPw.below b25 kPw.lt).alloc (.cells #[.int .i64 2, .slice (some ⟨nb, 0, none⟩) 2 nc] 30)).grown hgrow (fun e => by have := hlv _ e; omega)
             have s0 := kL6.cell 0
             have s1 := kL6.cell 1
             have s2 := kP6.cell 0
             simp only [List.getElem?_toArray, List.getElem?_cons_succ, List.getElem?_cons_zero] at s0 s1 s2)
          | (go_at_call 9
             refine (ofImage_any wd tg _ es.length ec es _ hw rfl ?_ ?_).mono ?_
             · (unfold maxLen; omega)
             · exact hSe.below (Below.refl _ _).drew
             rintro e w4 ⟨rfl, b4⟩
             have b24 : Below wr.heap.size wr w4 := ((Below.refl _ _).drew).trans b4
             have x0 : w4.cell? ⟨w2.heap.size, 0, none⟩ = some (.int .i64 tg) := by rw [b24.cell (p := ⟨w2.heap.size, 0, none⟩) kL.lt]; exact l0
             have x1 : w4.cell? ⟨w2.heap.size, 1, none⟩ = some (.slice (some ⟨eb, 0, none⟩) es.length ec) := by rw [b24.cell (p := ⟨w2.heap.size, 1, none⟩) kL.lt]; exact l1
             have x2 : w4.cell? ⟨w.heap.size, 0, none⟩ = some (.int .i64 n) := by rw [b24.cell (p := ⟨w.heap.size, 0, none⟩) kPw.lt]; exact p0)
          | (go_at_call 29
             refine (listI_new _ _ _ hxb).mono ?_
             rintro e w5 ⟨v5, rfl, ⟨nb, nc, rfl, hnb1, hnb2, hS5⟩, b5⟩
             have b25 : Below wr.heap.size wr w5 := b24.trans (b5.mono b24.size)
             have hO5 := owns_below hOw b25
             have hz5 := Nat.le_trans hzw b25.size
             have y0 : w5.cell? ⟨w2.heap.size, 0, none⟩ = some (.int .i64 tg) := by rw [b25.cell (p := ⟨w2.heap.size, 0, none⟩) kL.lt]; exact l0
             have y1 : w5.cell? ⟨w2.heap.size, 1, none⟩ = some (.slice (some ⟨eb, 0, none⟩) es.length ec) := by rw [b25.cell (p := ⟨w2.heap.size, 1, none⟩) kL.lt]; exact l1
             have y2 : w5.cell? ⟨w.heap.size, 0, none⟩ = some (.int .i64 n) := by rw [b25.cell (p := ⟨w.heap.size, 0, none⟩) kPw.lt]; exact p0))
        have hE5 := hEw.below b25
        have hnb3 : wr.heap.size ≤ nb := Nat.le_trans b24.size hnb1
        have hbW : Below w5.heap.size w5 (w5.alloc (.cells #[.int .i64 2, .slice (some ⟨nb, 0, none⟩) 2 nc] 30)) := (Below.refl _ _).alloc (Nat.le_refl _) _
        have hE6 := (hE5.below hbW).snoc ⟨2, some ⟨nb, 0, none⟩, nc, [str (be (n : Int) 5), str (be (ofP wd tg es) 8)]⟩ ⟨hS5.below hbW, nb, 0, rfl, Nat.lt_of_lt_of_le hnb2 hbW.size⟩
        have hA6 := hAp.snoc ⟨2, some ⟨nb, 0, none⟩, nc, [str (be (n : Int) 5), str (be (ofP wd tg es) 8)]⟩ (fun b off hab => by
          have h3 : b = nb := (congrArg Addr.block (Option.some.inj hab)).symm
          intro h2
          have h4 := hlv _ h2
          omega)
        have hE7 := hE6.grown hgrow hA6
        have hA7 : Apart (.slice (some ⟨g2, 0, none⟩) (ds.length + 1 + 1) cg) ((E0 ++ [⟨tg, some ⟨eb, 0, none⟩, ec, es⟩]) ++ [⟨2, some ⟨nb, 0, none⟩, nc, [str (be (n : Int) 5), str (be (ofP wd tg es) 8)]⟩]) := hA6.next hE6 hat (by simp)
        have hb5 := hbw.trans (b25.mono hbw.size)
        have hb6 : Below w.heap.size w w6 := (hb5.alloc hb5.size _).grown hgrow (by have := hb5.size; simp; omega) (fun k e => by have := hlv k e; omega)
        have HL7 : Hid (((E0 ++ [(⟨tg, some ⟨eb, 0, none⟩, ec, es⟩ : Ent)]) ++ [(⟨2, some ⟨nb, 0, none⟩, nc, [str (be (n : Int) 5), str (be (ofP wd tg es) 8)]⟩ : Ent)]).length = ds.length + 1 + 1) := by show _ = _; rw [List.length_append, List.length_append, HE0.out]; rfl
        have hown7 : w6.ownsRow (w2.heap.size + 1) 30 2 (.slice (some ⟨g2, 0, none⟩) (ds.length + 1 + 1) cg) (ds.length + 1 + 1) (flat ((E0 ++ [⟨tg, some ⟨eb, 0, none⟩, ec, es⟩]) ++ [⟨2, some ⟨nb, 0, none⟩, nc, [str (be (n : Int) 5), str (be (ofP wd tg es) 8)]⟩])) := by rw [flat_snoc]; exact hown6
        have HM7 : Hid (((E0 ++ [(⟨tg, some ⟨eb, 0, none⟩, ec, es⟩ : Ent)]) ++ [(⟨2, some ⟨nb, 0, none⟩, nc, [str (be (n : Int) 5), str (be (ofP wd tg es) 8)]⟩ : Ent)]).map Ent.img = upP wd s n (List.zip (turnsP n i) ds)) := by
          show _ = _
          rw [List.map_append, HMz.out]; unfold upP; rw [← HDz.out]; rfl
        generalize (E0 ++ [(⟨tg, some ⟨eb, 0, none⟩, ec, es⟩ : Ent)]) ++ [(⟨2, some ⟨nb, 0, none⟩, nc, [str (be (n : Int) 5), str (be (ofP wd tg es) 8)]⟩ : Ent)] = EE at *
        obtain ⟨cur, kB7, hcz, hcc, hcm, hH7⟩ := owns_blk HL7.out hown7
        have hg2 : w2.heap.size + 1 ≤ g2 := (hown7.lt g2 rfl).1
        clear hown6 hE6 hA6 hbW hE5 hO5 hS5 hb5 hOw hEw kL kPw hrw l0 l1 p0 p2 s0 s1 s2 hgrow
        go_wp2_with fail
        refine (rev_any g2 (ds.length + 1 + 1) cg cur EE _ HL7.out (by omega) hcz kB7 hH7).mono ?_
        rintro e w8 ⟨rfl, hgr8, cur', kB8, hH8⟩
        have hb8 : Below w.heap.size w w8 := hb6.grown hgr8 hb6.size (fun k e => by simp at e; omega)
        have hE8 : okE w8 EE := hE7.grown (sv := .slice (some ⟨g2, 0, none⟩) (ds.length + 1 + 1) cg) hgr8 hA7
        go_wp2
        go_ret
        refine ⟨hb8, .inr ⟨Hz.out, _, EE.reverse, rfl, ⟨fun e he => hE8 e (List.mem_reverse.1 he), .inr ⟨g2, cg, cur', ?_, ?_, hcm, kB8, ?_⟩⟩, ?_⟩⟩
        · rw [List.length_reverse, HL7.out]; rfl
        · rw [List.length_reverse, HL7.out]; exact hcc
        · rw [List.length_reverse, HL7.out]; exact hH8
        · rw [List.map_reverse, HM7.out]
  · have hcl' : (((turnsP n i).length : Int) != (ds.length : Int)) = true := by simp; omega
    go_wp2
    go_ret
    exact ⟨hb1, .inl ⟨hcl, rfl⟩⟩
end Go.Proofs.Ytabimdlooddcoaa
