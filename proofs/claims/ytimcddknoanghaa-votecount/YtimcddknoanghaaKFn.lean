/- Votes: who voted, those alike, which stands ahead. -/
import Derived.Test.YtimcddknoanghaaKMem
namespace Go.Proofs.Ytimcddknoanghaa
open Go.RowKit
set_option linter.unusedVariables false
set_option linter.unusedSimpArgs false

/-- The first stands ahead of the second. -/
def aheadV (a b : Vt) : Bool := if a.r = b.r then (if a.s = b.s then decide (a.f < b.f) else decide (a.s < b.s)) else decide (a.r < b.r)

theorem raheadV_any (a b : Vt) (w : World) :
    Calls Try.prog 29 #[.agg #[.int .i64 a.h, .int .i64 a.r, .int .i64 a.s, .bool a.has, .int .u64 a.bl, .int .i64 a.f], .agg #[.int .i64 b.h, .int .i64 b.r, .int .i64 b.s, .bool b.has, .int .u64 b.bl, .int .i64 b.f]] w fun e w' => e = .returned (.bool (aheadV a b)) ∧ Below w.heap.size w w' := by
  have HA : Hid (∀ z, aheadV a b = z ↔ (if a.r = b.r then (if a.s = b.s then decide (a.f < b.f) else decide (a.s < b.s)) else decide (a.r < b.r)) = z) := fun z => Iff.rfl
  generalize aheadV a b = Z at *
  obtain ⟨ah, ar, ast, ahas, abl, af⟩ := a
  obtain ⟨bh, br, bs, bhas, bbl, bf⟩ := b
  simp only at HA ⊢
  have bA : Below w.heap.size w ((w.alloc (.cells #[.int .i64 ah, .int .i64 ar, .int .i64 ast, .bool ahas, .int .u64 abl, .int .i64 af] 34)).alloc (.cells #[.int .i64 bh, .int .i64 br, .int .i64 bs, .bool bhas, .int .u64 bbl, .int .i64 bf] 34)) := ((Below.refl _ _).alloc (Nat.le_refl _) _).alloc (by simp) _
  by_cases h1 : ar = br
  · have n1 : (ar != br) = false := by simp [h1]
    by_cases h2 : ast = bs
    · have n2 : (ast != bs) = false := by simp [h2]
      have hz : Z = decide (af < bf) := (HA.out Z).1 rfl ▸ by rw [if_pos h1, if_pos h2]
      subst hz
      clear HA h1 h2
      go_enter Try.func29, Try.ntmps29
      go_wp2
      go_ret
      exact ⟨rfl, bA⟩
    · have n2 : (ast != bs) = true := by simp [h2]
      have hz : Z = decide (ast < bs) := (HA.out Z).1 rfl ▸ by rw [if_pos h1, if_neg h2]
      subst hz
      clear HA h1 h2
      go_enter Try.func29, Try.ntmps29
      go_wp2
      go_ret
      exact ⟨rfl, bA⟩
  · have n1 : (ar != br) = true := by simp [h1]
    have hz : Z = decide (ar < br) := (HA.out Z).1 rfl ▸ by rw [if_neg h1]
    subst hz
    clear HA h1
    go_enter Try.func29, Try.ntmps29
    go_wp2
    go_ret
    exact ⟨rfl, bA⟩

set_option maxHeartbeats 1600000 in
theorem voters_any (la : Option Addr) (ca : Nat) (l : List Vt) (w : World) (hl : l.length ≤ 100000) (h1 : VotesAt w la l) :
    Calls Try.prog 33 #[.slice la l.length ca] w fun e w' => (∃ v, e = .returned v ∧ w'.ownsRow w.heap.size 3 1 v (l.map Vt.f).length (flatI (l.map Vt.f))) ∧ Below w.heap.size w w' := by
  obtain ⟨F, HF⟩ : ∃ F, Hid (l.map Vt.f = F) := ⟨_, rfl⟩
  rw [HF.out]
  go_enter Try.func33, Try.ntmps33
  go_wp2_with fail
  go_loopw [3, 8] (fun lv iv wv => ∃ (i : Nat) (m : List Int), i ≤ l.length ∧ iv = .int .i64 i ∧ Hid (m = (l.take i).map Vt.f) ∧ m.length = i ∧ wv.ownsRow w.heap.size 3 1 lv m.length (flatI m) ∧ Below w.heap.size w wv) (fun _ iv _ => l.length - (intOf iv).toNat)
  case atStart => exact ⟨0, [], Nat.zero_le _, rfl, rfl, rfl, World.ownsRow_nil _ _ _ _, Below.refl _ _⟩
  case round =>
    obtain ⟨i, m, hi, rfl, HM, hm, hown, hb⟩ := hrel
    by_cases hlt : i < l.length
    · have hlt' : (i : Int) < (l.length : Int) := by omega
      obtain ⟨b1, o1, e1, z1, c0, c1, c2, c3, c4, c5⟩ := (h1.below hb).one hlt
      subst e1
      have HN : Hid (m ++ [l[i].f] = (l.take (i + 1)).map Vt.f) := by
        show _ = _
        rw [HM.out, List.take_succ_eq_append_getElem hlt, List.map_append]; rfl
      generalize l[i] = x at *
      obtain ⟨xh, xr, xs, xhas, xbl, xf⟩ := x
      simp only at c0 c1 c2 c3 c4 c5 HN
      clear HM
      have hz1 : Below w.heap.size w ((wr.alloc (.cells #[.int .i64 xh, .int .i64 xr, .int .i64 xs, .bool xhas, .int .u64 xbl, .int .i64 xf] 34)).alloc (.cells #[.int .i64 xf] 3)) := (hb.alloc hb.size _).alloc (by simp; have := hb.size; omega) _
      have hownA := (hown.alloc (.cells #[.int .i64 xh, .int .i64 xr, .int .i64 xs, .bool xhas, .int .u64 xbl, .int .i64 xf] 34)).alloc (.cells #[.int .i64 xf] 3)
      have kI := Blk.new (wr.alloc (.cells #[.int .i64 xh, .int .i64 xr, .int .i64 xs, .bool xhas, .int .u64 xbl, .int .i64 xf] 34)) #[.int .i64 xf] 3
      rw [World.size_alloc] at kI
      obtain ⟨v2, w2, hr2, ho2, hgr2⟩ := app_ints _ w.heap.size _ m hownA _ 1 [xf] (IntsAt.blk kI) (by omega) (by simp) hz1.size 1 rfl
      have b2 : Below w.heap.size w w2 := hz1.grown hgr2 hz1.size (fun k e => (hownA.lt k e).1)
      clear hownA kI hgr2 hz1
      go_wp2_with (at_builtin; refine wpList_append_run rfl _ _ 24 rfl _ _ v2 w2 rfl rfl hr2 ?_)
      exact ⟨⟨i + 1, m ++ [xf], by omega, by go_num, HN, by simp [hm], ho2, b2⟩, by simp [intOf]; omega⟩
    · have hge : ¬ (i : Int) < (l.length : Int) := by omega
      have hie : i = l.length := by omega
      have HE : m = F := by rw [← HF.out, HM.out, hie, List.take_length]
      subst HE
      clear hm HM hie HF
      go_wp2
      go_ret
      exact ⟨⟨_, rfl, hown⟩, hb⟩

/-- Those that are for the same. -/
def alikeP (l : List Vt) (x : Vt) : List Vt := l.filter fun y => decide (y.has = x.has) && decide (y.bl = x.bl)
set_option maxHeartbeats 1600000 in
theorem alike_any (la : Option Addr) (ca : Nat) (l : List Vt) (x : Vt) (w : World) (hl : l.length ≤ 100000) (h1 : VotesAt w la l) :
    Calls Try.prog 34 #[.slice la l.length ca, .agg #[.int .i64 x.h, .int .i64 x.r, .int .i64 x.s, .bool x.has, .int .u64 x.bl, .int .i64 x.f]] w fun e w' => (∃ v, e = .returned v ∧ w'.ownsRow w.heap.size 34 6 v (alikeP l x).length (flatV (alikeP l x))) ∧ Below w.heap.size w w' := by
  obtain ⟨h, r, s, has, bl, f⟩ := x
  simp only
  have bA : Below w.heap.size w (w.alloc (.cells #[.int .i64 h, .int .i64 r, .int .i64 s, .bool has, .int .u64 bl, .int .i64 f] 34)) := (Below.refl _ _).alloc (Nat.le_refl _) _
  have kA := Blk.new w #[.int .i64 h, .int .i64 r, .int .i64 s, .bool has, .int .u64 bl, .int .i64 f] 34
  go_enter Try.func34, Try.ntmps34
  go_wp2_with fail
  generalize (w.alloc (.cells #[.int .i64 h, .int .i64 r, .int .i64 s, .bool has, .int .u64 bl, .int .i64 f] 34)) = wA at *
  go_loopw [5, 10] (fun lv iv wv => ∃ (i : Nat) (m : List Vt), i ≤ l.length ∧ iv = .int .i64 i ∧ Hid (m = alikeP (l.take i) ⟨h, r, s, has, bl, f⟩) ∧ m.length ≤ i ∧ wv.ownsRow (w.heap.size + 1) 34 6 lv m.length (flatV m) ∧ Below w.heap.size w wv ∧ Blk wv w.heap.size #[.int .i64 h, .int .i64 r, .int .i64 s, .bool has, .int .u64 bl, .int .i64 f] 34) (fun _ iv _ => l.length - (intOf iv).toNat)
  case atStart => exact ⟨0, [], Nat.zero_le _, rfl, rfl, Nat.zero_le _, World.ownsRow_nil _ _ _ _, bA, kA⟩
  case round =>
    obtain ⟨i, m, hi, rfl, HM, hm, hown, hb, kb⟩ := hrel
    have hne : u5.ownBlock ≠ some w.heap.size := fun e => by have := (hown.lt _ e).1; omega
    by_cases hlt : i < l.length
    · have hlt' : (i : Int) < (l.length : Int) := by omega
      obtain ⟨b1, o1, e1, z1, c0, c1, c2, c3, c4, c5⟩ := (h1.below hb).one hlt
      subst e1
      have ht := List.take_succ_eq_append_getElem hlt
      generalize l[i] = x at *
      obtain ⟨xh, xr, xs, xhas, xbl, xf⟩ := x
      simp only at c0 c1 c2 c3 c4 c5
      have k3 := (kb.cell 3).trans rfl
      have k4 := (kb.cell 4).trans rfl
      have zk := kb.lt
      have hz1 : Below w.heap.size w (wr.alloc (.cells #[.int .i64 xh, .int .i64 xr, .int .i64 xs, .bool xhas, .int .u64 xbl, .int .i64 xf] 34)) := hb.alloc hb.size _
      have hownA := hown.alloc (.cells #[.int .i64 xh, .int .i64 xr, .int .i64 xs, .bool xhas, .int .u64 xbl, .int .i64 xf] 34)
      have kbA := kb.alloc (.cells #[.int .i64 xh, .int .i64 xr, .int .i64 xs, .bool xhas, .int .u64 xbl, .int .i64 xf] 34)
      by_cases hq : xhas = has ∧ xbl = bl
      · have n1 : (xhas == has) = true := by simp [hq.1]
        have n2 : (xbl == bl) = true := by simp [hq.2]
        have HN : Hid (m ++ [⟨xh, xr, xs, xhas, xbl, xf⟩] = alikeP (l.take (i + 1)) ⟨h, r, s, has, bl, f⟩) := by
          show _ = _
          rw [HM.out, ht]
          simp [alikeP, hq.1, hq.2]
        have hz2 := hz1.alloc hz1.size (.cells #[.int .i64 xh, .int .i64 xr, .int .i64 xs, .bool xhas, .int .u64 xbl, .int .i64 xf] 34)
        have hownB := hownA.alloc (.cells #[.int .i64 xh, .int .i64 xr, .int .i64 xs, .bool xhas, .int .u64 xbl, .int .i64 xf] 34)
        have kbB := kbA.alloc (.cells #[.int .i64 xh, .int .i64 xr, .int .i64 xs, .bool xhas, .int .u64 xbl, .int .i64 xf] 34)
        have kI := Blk.new (wr.alloc (.cells #[.int .i64 xh, .int .i64 xr, .int .i64 xs, .bool xhas, .int .u64 xbl, .int .i64 xf] 34)) #[.int .i64 xh, .int .i64 xr, .int .i64 xs, .bool xhas, .int .u64 xbl, .int .i64 xf] 34
        rw [World.size_alloc] at kI
        obtain ⟨v2, w2, hr2, ho2, hgr2⟩ := app_votes _ (w.heap.size + 1) _ m hownB _ 1 [⟨xh, xr, xs, xhas, xbl, xf⟩] (VotesAt.blk kI) (by omega) (by simp) (by simp; omega) 1 rfl
        have b2 : Below w.heap.size w w2 := hz2.grown hgr2 hz2.size (fun k e => by have := (hownB.lt k e).1; omega)
        have kb2 := kbB.grown hgr2 hne
        clear hownA hownB kI hgr2 hz1 hz2 kbA kbB HM ht hq
        go_wp2_with (at_builtin; refine wpList_append_run rfl _ _ 23 rfl _ _ v2 w2 rfl rfl hr2 ?_)
        exact ⟨⟨i + 1, m ++ [⟨xh, xr, xs, xhas, xbl, xf⟩], by omega, by go_num, HN, by simp; omega, ho2, b2, kb2⟩, by simp [intOf]; omega⟩
      · have HN : Hid (m = alikeP (l.take (i + 1)) ⟨h, r, s, has, bl, f⟩) := by
          show _ = _
          rw [HM.out, ht]
          simp [alikeP]
          intro e
          exact fun e2 => hq ⟨e, e2⟩
        by_cases hh : xhas = has
        · have n1 : (xhas == has) = true := by simp [hh]
          have n2 : (xbl == bl) = false := by simp; exact fun e => hq ⟨hh, e⟩
          clear HM ht hq hh
          go_wp2
          exact ⟨⟨i + 1, m, by omega, by go_num, HN, by omega, hownA, hz1, kbA⟩, by simp [intOf]; omega⟩
        · have n1 : (xhas == has) = false := by simp [hh]
          clear HM ht hq hh
          go_wp2
          exact ⟨⟨i + 1, m, by omega, by go_num, HN, by omega, hownA, hz1, kbA⟩, by simp [intOf]; omega⟩
    · have hge : ¬ (i : Int) < (l.length : Int) := by omega
      have hie : i = l.length := by omega
      have HE : Hid (alikeP l ⟨h, r, s, has, bl, f⟩ = m) := by show _ = _; rw [HM.out, hie, List.take_length]
      clear hm HM hie
      go_wp2
      go_ret
      exact ⟨⟨_, rfl, by rw [HE.out]; exact owns_base hown (by omega)⟩, hb⟩
end Go.Proofs.Ytimcddknoanghaa
