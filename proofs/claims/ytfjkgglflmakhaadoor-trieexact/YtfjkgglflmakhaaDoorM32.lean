/- The answer's Get and Some. -/
import Derived.Test.YtfjkgglflmakhaaDoorZPure
import Derived.Test.YtfjkgglflmakhaaDoorZRPut

namespace Go.Proofs.YtfjkgglflmakhaaDoor
open Go.RowKit
set_option linter.unusedVariables false
set_option linter.unusedSimpArgs false

theorem find_step (key : Key) (l : List (Key × Key)) (i : Nat) (x : Key × Key) (hx : l[i]? = some x) (hne : ¬ x.1 = key) : (l.drop i).find? (fun x => x.1 == key) = (l.drop (i + 1)).find? (fun x => x.1 == key) := by
  obtain ⟨h, e⟩ := List.getElem?_eq_some_iff.1 hx
  rw [List.drop_eq_getElem_cons h, e, List.find?_cons_of_neg (by simpa using hne)]

set_option maxHeartbeats 1600000 in
theorem rget_any (W : Int) (la : Option Addr) (cap : Nat) (l : List (Key × Key)) (key : Key) (w : World) (hn : l.length ≤ 100000) (hi : ItemsAt w la l) :
    Calls Tryd.prog 10 #[.agg #[.int .i64 W, .slice la l.length cap], .string (str key)] w fun e w' => e = .returned (.string (str (rgetP key l))) ∧ Below w.heap.size w w' := by
  have kT := Blk.new w #[.int .i64 W, .slice la l.length cap] 31
  have bT : Below w.heap.size w (w.alloc (.cells #[.int .i64 W, .slice la l.length cap] 31)) := (Below.refl _ _).alloc (Nat.le_refl _) _
  have hi1 := hi.below bT
  have c1 := (kT.cell 1).trans rfl
  have z1 := kT.lt
  clear hi
  go_enter Tryd.func10, Tryd.ntmps10
  go_wp2_with fail
  generalize w.alloc (.cells #[.int .i64 W, .slice la l.length cap] 31) = w1 at *
  go_loopw [5] (fun iv wv => ∃ i : Nat, i ≤ l.length ∧ iv = .int .i64 i ∧ Hid (rgetP key l = rgetP key (l.drop i)) ∧ w1 = wv) (fun iv _ => l.length - (intOf iv).toNat)
  case atStart => exact ⟨0, Nat.zero_le _, rfl, rfl, rfl⟩
  case round =>
    obtain ⟨i, hil, rfl, HR, rfl⟩ := hrel
    by_cases hlt : i < l.length
    · have hlt' : (i : Int) < (l.length : Int) := by omega
      rcases hi1 with h0 | ⟨b, off, rfl, hb, hc⟩
      · rw [h0] at hlt; simp at hlt
      obtain ⟨d0, d1⟩ := hc i _ (List.getElem?_eq_getElem hlt)
      have HD : Hid (l.drop i = l[i] :: l.drop (i + 1)) := List.drop_eq_getElem_cons hlt
      obtain ⟨x, ex⟩ : ∃ x, l[i] = x := ⟨_, rfl⟩
      rw [ex] at d0 d1 HD
      clear hc ex
      obtain ⟨xk, xv⟩ := x
      simp only at d0 d1
      by_cases hk : xk = key
      · have HG : Hid (rgetP key l = xv) := by
          show _ = _
          rw [HR.out, HD.out]
          unfold rgetP
          rw [List.find?_cons_of_pos (by simpa using hk)]
        have hkb : ((str xk).toList == (str key).toList) = true := by rw [hk]; exact beq_self_eq_true _
        clear hk
        clear HR HD
        go_wp2
        go_ret
        exact ⟨by rw [HG.out]; rfl, bT⟩
      · have HG : Hid (rgetP key l = rgetP key (l.drop (i + 1))) := by
          show _ = _
          rw [HR.out, HD.out]
          unfold rgetP
          rw [List.find?_cons_of_neg (by simpa using hk)]
        have hkb : ((str xk).toList == (str key).toList) = false := by rw [str_toList, str_toList]; simpa using hk
        clear hk
        clear HR HD
        go_wp2
        exact ⟨⟨i + 1, by omega, by go_num, HG, trivial⟩, by simp [intOf]; omega⟩
    · have hge : ¬ (i : Int) < (l.length : Int) := by omega
      have HG : Hid (rgetP key l = []) := by
        show _ = _
        rw [HR.out, List.drop_of_length_le (by omega)]; rfl
      clear HR
      go_wp2
      go_ret
      exact ⟨by rw [HG.out]; rfl, bT⟩
end Go.Proofs.YtfjkgglflmakhaaDoor

namespace Go.Proofs.YtfjkgglflmakhaaDoor
open Go.RowKit
set_option linter.unusedVariables false
set_option linter.unusedSimpArgs false

set_option maxHeartbeats 800000 in
theorem rbegins_any (k p : Key) (w : World) (hk : k.length ≤ 1000000) (hp : p.length ≤ maxLen) :
    Calls Tryd.prog 35 #[.string (str k), .string (str p)] w fun e w' => e = .returned (.bool (p.isPrefixOf k)) ∧ w = w' := by
  have s1 := str_size k
  have s2 := str_size p
  unfold maxLen at hp
  by_cases h : p.length ≤ k.length
  · have h' : (p.length : Int) ≤ (k.length : Int) := by omega
    have hex : (str k).extract 0 p.length = str (k.take p.length) := by
      unfold str
      apply ByteArray.ext
      rw [ByteArray.data_extract]
      apply Array.ext'
      simp
    have HP : Hid (p.isPrefixOf k = ((str (k.take p.length)).toList == (str p).toList)) := by
      show _ = _
      rw [str_toList, str_toList, Bool.eq_iff_iff, List.isPrefixOf_iff_prefix, beq_iff_eq]
      constructor
      · intro h2; exact (List.prefix_iff_eq_take.1 h2).symm
      · intro h2; rw [← h2]; exact List.take_prefix _ _
    go_enter Tryd.func35, Tryd.ntmps35
    go_wp2
    go_ret
    exact ⟨by rw [HP.out]; rfl, rfl⟩
  · have h' : ¬ (p.length : Int) ≤ (k.length : Int) := by omega
    have HP : Hid (p.isPrefixOf k = false) := by
      show _ = _
      rw [Bool.eq_false_iff]
      intro e
      have := (List.isPrefixOf_iff_prefix.1 e).length_le
      omega
    go_enter Tryd.func35, Tryd.ntmps35
    go_wp2
    go_ret
    exact ⟨by rw [HP.out]; rfl, rfl⟩

/-- A list of items that a call gave. -/
def SomeE (w : World) (R : List (Key × Key)) (e : Ending) (w' : World) : Prop := ∃ sa sc, e = .returned (.slice sa R.length sc) ∧ ItemsAt w' sa R ∧ Below w.heap.size w w'

set_option maxRecDepth 4000 in
set_option maxHeartbeats 3200000 in
theorem rsome_any (W : Int) (la : Option Addr) (cap : Nat) (l : List (Key × Key)) (p : Key) (n : Int) (w : World) (hp : p.length ≤ maxLen) (hn : l.length ≤ 100000) (hK : ∀ x ∈ l, x.1.length ≤ 32) (hN : -9223372036854775808 ≤ n ∧ n ≤ 9223372036854775807) (hi : ItemsAt w la l) :
    Calls Tryd.prog 14 #[.agg #[.int .i64 W, .slice la l.length cap], .string (str p), .int .i64 n] w fun e w' => SomeE w (someGo p n [] l) e w' := by
  obtain ⟨i0, hinf, hz0, hz1, hz2⟩ := info_parts infoItem
  have kT := Blk.new w #[.int .i64 W, .slice la l.length cap] 31
  have bT : Below w.heap.size w (w.alloc (.cells #[.int .i64 W, .slice la l.length cap] 31)) := (Below.refl _ _).alloc (Nat.le_refl _) _
  have hi1 := hi.below bT
  clear hi
  have HK := show Hid (_) from hK
  clear hK
  go_enter Tryd.func14, Tryd.ntmps14
  go_wp2_with fail
  generalize w.alloc (.cells #[.int .i64 W, .slice la l.length cap] 31) = w1 at *
  go_loopw [7, 8] (fun sv iv wv => ∃ (i : Nat) (acc : List (Key × Key)), i ≤ l.length ∧ iv = .int .i64 i ∧ acc.length ≤ i ∧ Hid (someGo p n [] l = someGo p n acc (l.drop i)) ∧ wv.ownsRow w1.heap.size 66 2 sv acc.length (flat acc) ∧ Below w1.heap.size w1 wv) (fun _ iv _ => l.length - (intOf iv).toNat)
  case atStart => exact ⟨0, [], Nat.zero_le _, rfl, Nat.zero_le _, rfl, World.ownsRow_nil _ _ _ _, Below.refl _ _⟩
  case round =>
    obtain ⟨i, acc, hil, rfl, hai, HR, own, hb⟩ := hrel
    obtain ⟨sa, sc, hsv, _⟩ := ItemsAt.of_owns own
    subst hsv
    have k2 := kT.below hb kT.lt
    have c1 := (k2.cell 1).trans rfl
    have z2 := k2.lt
    by_cases hlt : i < l.length
    · have hlt' : (i : Int) < (l.length : Int) := by omega
      rcases hi1.below hb with h0 | ⟨b, off, e, hbl, hc⟩
      · rw [h0] at hlt; simp at hlt
      subst e
      obtain ⟨d0, d1⟩ := hc i _ (List.getElem?_eq_getElem hlt)
      have HD : Hid (l.drop i = l[i] :: l.drop (i + 1)) := List.drop_eq_getElem_cons hlt
      have hxk := HK.out _ (List.getElem_mem hlt)
      obtain ⟨x, ex⟩ : ∃ x, l[i] = x := ⟨_, rfl⟩
      rw [ex] at d0 d1 HD hxk
      clear hc ex
      obtain ⟨xk, xv⟩ := x
      simp only at d0 d1 hxk
      have KB := fun w' => rbegins_any xk p w' (by omega) hp
      have HS : Hid (someGo p n [] l = someGo p n (if p.isPrefixOf xk && (decide (n < 0) || decide ((acc.length : Int) < n)) then acc ++ [(xk, xv)] else acc) (l.drop (i + 1))) := by
        show _ = _
        rw [HR.out, HD.out]; rfl
      clear HR HD
      by_cases hpre : p.isPrefixOf xk = true
      · rw [hpre] at KB HS
        by_cases hroom : n < 0 ∨ (acc.length : Int) < n
        · have HS2 : Hid (someGo p n [] l = someGo p n (acc ++ [(xk, xv)]) (l.drop (i + 1))) := by
            show _ = _
            rw [HS.out, if_pos (by simp only [Bool.true_and, Bool.or_eq_true, decide_eq_true_eq]; exact hroom)]
          clear HS hpre
          have fin : ∀ (g cg : Nat) (w2 : World), w2.ownsRow w1.heap.size 66 2 (.slice (some ⟨g, 0, none⟩) (acc.length + 1) cg) (acc.length + 1) (flat acc ++ [.string (str xk), .string (str xv)]) → (wr.alloc (.cells #[.string (str xk), .string (str xv)] 66)).grownBy w2 (Value.slice sa acc.length sc).ownBlock → w2.ownsRow w1.heap.size 66 2 (.slice (some ⟨g, 0, none⟩) (acc.length + 1) cg) (acc ++ [(xk, xv)]).length (flat (acc ++ [(xk, xv)])) ∧ Below w1.heap.size w1 w2 := by
            intro g cg w2 ho hg
            refine ⟨by rw [flat_snoc, List.length_append]; exact ho, ?_⟩
            have bG : Below w1.heap.size (wr.alloc (.cells #[.string (str xk), .string (str xv)] 66)) w2 := (Below.refl _ _).grown hg (by have := hb.size; simp; omega) (fun k e => (own.lt k e).1)
            exact (hb.alloc hb.size _).trans bG
          have hsz := hb.size
          rcases hroom with hr | hr
          all_goals
            go_wp2_with fail
            refine (KB _).mono ?_
            rintro e w' ⟨rfl, rfl⟩
            go_wp2_with (at_builtin; refine wpList_append_lies _ rfl _ _ _ rfl w1.heap.size 66 i0 (.agg #[.string ⟨#[]⟩, .string ⟨#[]⟩]) 2 32 Tryd.underlying29 hinf hz0 hz1 hz2 rfl (by omega) (.slice sa acc.length sc) acc.length (flat acc) rfl (own.alloc _) ⟨wr.heap.size, 0, none⟩ 1 1 [.string (str xk), .string (str xv)] rfl rfl (cells_two _ _ _ _) (by simp [Value.oneCell']) (by omega) ?c3 ?c4 ?c5 (wr.heap.size + 1) (by simp) ?_)
            case c3 => unfold maxLen; omega
            case c4 => omega
            case c5 => simp; omega
            intro g cg w2 hown2 hgrow hat hlt2
            obtain ⟨F1, F2⟩ := fin g cg w2 hown2 hgrow
            clear fin hown2 hgrow own c1 d0 d1 KB k2
            go_wp2
            exact ⟨⟨i + 1, acc ++ [(xk, xv)], by omega, by go_num, by simp; omega, HS2, F1, F2⟩, by simp [intOf]; omega⟩
        · have HS2 : Hid (someGo p n [] l = someGo p n acc (l.drop (i + 1))) := by
            show _ = _
            rw [HS.out, if_neg (by simp only [Bool.true_and, Bool.or_eq_true, decide_eq_true_eq]; exact hroom)]
          clear HS hpre
          have hr1 : ¬ n < 0 := fun q => hroom (.inl q)
          have hr2 : ¬ (acc.length : Int) < n := fun q => hroom (.inr q)
          clear hroom
          go_wp2_with fail
          refine (KB _).mono ?_
          rintro e w' ⟨rfl, rfl⟩
          go_wp2
          exact ⟨⟨i + 1, acc, by omega, by go_num, by omega, HS2, own, hb⟩, by simp [intOf]; omega⟩
      · have hpre' : p.isPrefixOf xk = false := by rw [Bool.eq_false_iff]; exact hpre
        rw [hpre'] at KB HS
        have HS2 : Hid (someGo p n [] l = someGo p n acc (l.drop (i + 1))) := by
          show _ = _
          rw [HS.out, if_neg (by simp)]
        clear HS hpre hpre'
        go_wp2_with fail
        refine (KB _).mono ?_
        rintro e w' ⟨rfl, rfl⟩
        go_wp2
        exact ⟨⟨i + 1, acc, by omega, by go_num, by omega, HS2, own, hb⟩, by simp [intOf]; omega⟩
    · have hge : ¬ (i : Int) < (l.length : Int) := by omega
      have HG : Hid (someGo p n [] l = acc) := by
        show _ = _
        rw [HR.out, List.drop_of_length_le (by omega)]; rfl
      obtain ⟨sa', sc', e, hit⟩ := ItemsAt.of_owns own
      injection e with e1 _ e2
      subst e1 e2
      have hbw := bT.trans (hb.mono bT.size)
      clear HR own
      go_wp2
      go_ret
      exact ⟨sa, sc, by rw [HG.out]; rfl, by rw [HG.out]; exact hit, hbw⟩
end Go.Proofs.YtfjkgglflmakhaaDoor
