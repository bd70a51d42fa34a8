/- Those who are named, with others. -/
import Derived.Test.YtimcddknoanghaaKFn
import Derived.Maps.AppendAt
import Derived.RangeFuncWrites
namespace Go.Proofs.Ytimcddknoanghaa
open Go.RowKit Go.Maps
set_option linter.unusedVariables false
set_option linter.unusedSimpArgs false

/-- One more, if it is not named yet. -/
def named1 (acc : List Int) (f : Int) : List Int := if f ∈ acc then acc else acc ++ [f]
def othersP (N O : List Int) : List Int := O.foldl named1 N
theorem othersP_len (N O : List Int) : (othersP N O).length ≤ N.length + O.length := by
  unfold othersP
  induction O generalizing N with
  | nil => simp
  | cons f r ih =>
    rw [List.foldl_cons]
    have h := ih (named1 N f)
    have h2 : (named1 N f).length ≤ N.length + 1 := by unfold named1; split <;> simp
    simp only [List.length_cons]
    omega
theorem othersP_mem (N O : List Int) (f : Int) : f ∈ othersP N O ↔ f ∈ N ∨ f ∈ O := by
  unfold othersP
  induction O generalizing N with
  | nil => simp
  | cons g r ih =>
    rw [List.foldl_cons, ih (named1 N g)]
    have h2 : f ∈ named1 N g ↔ f ∈ N ∨ f = g := by
      unfold named1
      split
      · rename_i hg
        exact ⟨Or.inl, fun h => h.elim id (fun e => by rw [e]; exact hg)⟩
      · simp
    rw [h2, List.mem_cons, or_assoc]
theorem app_one (w : World) (base : Nat) (sv : Value) (done : List Int) (hown : w.ownsRow base 3 1 sv done.length (flatI done)) (x : Int) (hd : done.length ≤ 200000) (hb : base ≤ w.heap.size) :
    ∃ v w', (Builtin.append_ #[24, 24] 24 #[sv, .slice (some ⟨w.heap.size, 0, none⟩) 1 1]).run Try.prog (w.alloc (.cells #[.int .i64 x] 3)) = .ok v w' ∧ w'.ownsRow base 3 1 v (done.length + 1) (flatI (done ++ [x])) ∧ (w.alloc (.cells #[.int .i64 x] 3)).grownBy w' sv.ownBlock ∧ (v.ownBlock = sv.ownBlock ∨ v.ownBlock = some (w.heap.size + 1)) := by
  obtain ⟨i0, hi, hz0, hz1, hz2⟩ := info_parts infoInt
  have kI := IntsAt.blk (Blk.new w #[.int .i64 x] 3)
  rcases kI with e | ⟨b, off, e, hlt, hc⟩
  · cases e
  · cases e
    obtain ⟨v, w', hr, h1, h2, _, h4⟩ := run_append_own_at (P := Try.prog) _ base 24 24 3 i0 (.int .i64 0) 1 8 Try.underlying24 hi hz0 hz1 hz2 rfl (by decide) _ _ _ (hown.alloc _) ⟨w.heap.size, 0, none⟩ 1 1 (flatI [x]) rfl (news_ints hc) (flatI_one [x]) (by unfold maxLen; omega) (by omega) (by simp; omega)
    refine ⟨v, w', hr, by rw [flatI_app]; exact h1, h2, ?_⟩
    rw [World.size_alloc] at h4
    exact h4
theorem ints_grown {W W' : World} {row : Option Nat} {fa : Option Addr} {l : List Int} (h : IntsAt W fa l) (hg : W.grownBy W' row) (hr : ∀ a, fa = some a → row ≠ some a.block) : IntsAt W' fa l := by
  rcases h with h | ⟨b, off, e, hl, hc⟩
  · exact .inl h
  · have hne := hr _ e
    refine .inr ⟨b, off, e, Nat.lt_of_lt_of_le hl hg.size, fun i x hx => ?_⟩
    have := hc i x hx
    unfold World.cell? at this ⊢
    rw [hg.block b hl (fun e => hne e.symm)]
    exact this
theorem owns_cells {w : World} {base : Nat} {e : TypeId} {size : Nat} {v : Value} {n : Nat} {xs : List Value} (h : w.ownsRow base e size v n xs) {j : Nat} {o : Obj} (hj : v.ownBlock = some j) (ho : w.heap[j]? = some o) : o.isCells = true := by
  rcases h.2 with ⟨rfl, _⟩ | ⟨g, cap, cur, rfl, _, hgh, _⟩
  · cases hj
  · have hk : g = j := by simpa [Value.ownBlock] using hj
    subst hk
    have := Option.some.inj (ho.symm.trans hgh)
    subst this
    rfl

set_option maxRecDepth 8000 in
set_option maxHeartbeats 3200000 in
theorem others_any (base : Nat) (nv : Value) (N : List Int) (oa : Option Addr) (oc : Nat) (O : List Int) (w : World) (hbs : base ≤ w.heap.size) (hown0 : w.ownsRow base 3 1 nv N.length (flatI N)) (hO : IntsAt w oa O) (hne0 : ∀ a, oa = some a → nv.ownBlock ≠ some a.block) (hN : N.length ≤ 100000) (hOl : O.length ≤ 10000) :
    Calls Try.prog 38 #[nv, .slice oa O.length oc] w fun e w' => (∃ v, e = .returned v ∧ w'.ownsRow base 3 1 v (othersP N O).length (flatI (othersP N O))) ∧ Below base w w' ∧ KeepsOthers w w' := by
  obtain ⟨F, HF⟩ : ∃ F, Hid (othersP N O = F) := ⟨_, rfl⟩
  rw [HF.out]
  go_enter Try.func38, Try.ntmps38
  go_wp2_with fail
  go_loopw [0, 9] (fun lv iv wv => ∃ (i : Nat) (M : List Int), i ≤ O.length ∧ iv = .int .i64 i ∧ Hid (M = othersP N (O.take i)) ∧ M.length ≤ 100000 + i ∧ wv.ownsRow base 3 1 lv M.length (flatI M) ∧ Hid (∀ a, oa = some a → lv.ownBlock ≠ some a.block) ∧ IntsAt wv oa O ∧ Below base w wv ∧ KeepsOthers w wv) (fun _ iv _ => O.length - (intOf iv).toNat)
  case atStart => exact ⟨0, N, Nat.zero_le _, rfl, rfl, by omega, hown0, hne0, hO, Below.refl _ _, KeepsOthers.refl _⟩
  case round =>
    obtain ⟨i, M, hi, rfl, HM, hml, hown, HNE, hOw, hb, hko⟩ := hrel
    have hsz := hko.size
    by_cases hlt : i < O.length
    · have hlt' : (i : Int) < (O.length : Int) := by omega
      obtain ⟨b1, o1, e1, z1, a1⟩ := hOw.one hlt
      have hne1 := HNE.out _ e1
      subst e1
      have htk := List.take_succ_eq_append_getElem hlt
      generalize O[i] = f at *
      obtain ⟨na, nc, rfl, hI⟩ := IntsAt.of_owns hown
      have HC := contains_any na nc M f wr (by unfold maxLen; omega) hI
      by_cases hm : f ∈ M
      · have HN : Hid (M = othersP N (O.take (i + 1))) := by
          show _ = _
          rw [htk]; unfold othersP; rw [List.foldl_append, List.foldl_cons, List.foldl_nil]
          change M = named1 (othersP N (O.take i)) f
          rw [← HM.out, named1, if_pos hm]
        rw [decide_eq_true hm] at HC
        clear HM htk hm
        go_wp2_with fail
        refine HC.mono ?_
        rintro e w2 ⟨rfl, rfl⟩
        go_wp2
        exact ⟨⟨i + 1, M, by omega, by go_num, HN, by omega, hown, HNE, hOw, hb, hko⟩, by simp [intOf]; omega⟩
      · have HN : Hid (M ++ [f] = othersP N (O.take (i + 1))) := by
          show _ = _
          rw [htk]; unfold othersP; rw [List.foldl_append, List.foldl_cons, List.foldl_nil]
          change M ++ [f] = named1 (othersP N (O.take i)) f
          rw [← HM.out, named1, if_neg hm]
        rw [decide_eq_false hm] at HC
        obtain ⟨v2, w2, hr2, ho2, hgr2, hat⟩ := app_one wr base _ M hown f (by omega) (Nat.le_trans hbs hsz)
        have bA : Below base w (wr.alloc (.cells #[.int .i64 f] 3)) := hb.alloc (Nat.le_trans hbs hsz) _
        have b2 : Below base w w2 := bA.grown hgr2 (by simp; omega) (fun k e => (hown.lt k e).1)
        have hO2 : IntsAt w2 (some ⟨b1, o1, none⟩) O := ints_grown (hOw.below ((Below.refl wr.heap.size wr).alloc (Nat.le_refl _) _)) hgr2 (fun a ha => by cases ha; exact hne1)
        have hko2 : KeepsOthers w w2 := hko.trans ((KeepsOthers.alloc _ _).trans (KeepsOthers.of_grownBy hgr2 (fun j o e ho => owns_cells (hown.alloc _) e ho)))
        have HNE2 : Hid (∀ a, (some (⟨b1, o1, none⟩ : Addr)) = some a → v2.ownBlock ≠ some a.block) := by
          intro a ha
          cases ha
          rcases hat with h | h
          · rw [h]; exact hne1
          · rw [h]; intro e; have := Option.some.inj e; simp only at this; omega
        have ho3 : w2.ownsRow base 3 1 v2 (M ++ [f]).length (flatI (M ++ [f])) := by rw [List.length_append]; exact ho2
        clear HM htk hm hgr2 hat ho2 bA
        go_wp2_with (first
          | (go_at_call 56
             refine HC.mono ?_
             rintro e w3 ⟨rfl, rfl⟩)
          | (at_builtin; refine wpList_append_run rfl _ _ 24 rfl _ _ v2 w2 rfl rfl hr2 ?_))
        exact ⟨⟨i + 1, M ++ [f], by omega, by go_num, HN, by simp; omega, ho3, HNE2, hO2, b2, hko2⟩, by simp [intOf]; omega⟩
    · have hge : ¬ (i : Int) < (O.length : Int) := by omega
      have hie : i = O.length := by omega
      have HE : M = F := by rw [← HF.out, HM.out, hie, List.take_length]
      subst HE
      clear HM hie HF
      go_wp2
      go_ret
      exact ⟨⟨_, rfl, hown⟩, hb, hko⟩
end Go.Proofs.Ytimcddknoanghaa
