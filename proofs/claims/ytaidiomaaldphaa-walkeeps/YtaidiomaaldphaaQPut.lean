/- Put of a record of a vote. -/
import Derived.Test.YtaidiomaaldphaaQMay
import Derived.Test.YtaidiomaaldphaaQVote
import Derived.Test.YtaidiomaaldphaaXPut4
import Derived.Test.YtaidiomaaldphaaWWalk
namespace Go.Proofs.Ytaidiomaaldphaa
open Go.RowKit
set_option linter.unusedVariables false
set_option linter.unusedSimpArgs false

theorem RC_size (h rd f : Int) : (RC h rd f).size = 38 := rfl
theorem pNum_ok (out : List UInt8) (n : Int) (h0 : 0 ≤ n) (h1 : n ≤ 1099511627775) : pNum 1099511627775 (some out) n = some (out ++ numB n) := by
  simp [pNum, h0, h1]
theorem voteP_ok (out : List UInt8) (h rd f : Int) (hh : 0 ≤ h ∧ h ≤ 1099511627775) (hr : 0 ≤ rd ∧ rd ≤ 1099511627775) (hf : 0 ≤ f ∧ f ≤ 1099511627775) : voteP (some out) h rd 1 false 0 f = some (out ++ voteBy h rd 1 false 0 f) := by
  simp only [voteP, pNums, List.foldl_cons, List.foldl_nil, oApp]
  rw [pNum_ok _ _ hh.1 hh.2, pNum_ok _ _ hr.1 hr.2, pNum_ok _ _ (by omega) (by omega)]
  simp only [oApp, Option.map_some]
  rw [pNum_ok _ _ hf.1 hf.2]
  simp [voteBy, encs, List.append_assoc]

set_option maxHeartbeats 1600000 in
theorem precord_v (base b xb : Nat) (h rd f : Int) (w : World) (hh : 0 ≤ h ∧ h ≤ 1099511627775) (hr : 0 ≤ rd ∧ rd ≤ 1099511627775) (hf : 0 ≤ f ∧ f ≤ 1099511627775) (hP : PassAt w base b []) (kx : Blk w xb (RC h rd f) 54) (hne : xb ≠ b) :
    Calls Try.prog 18 #[.pointer (some ⟨b, 0, none⟩), .pointer (some ⟨xb, 0, none⟩)] w fun e w' => Wrote base b (some (recBy h rd 1 false 0 f)) e w' ∧ Kp base b w w' := by
  have zx := kx.lt
  have hs : Safe w b xb := kx.safe (by decide) hne
  go_enter Try.func18, Try.ntmps18
  go_wp2_with fail
  have KN := number_any base b ⟨xb, 0, none⟩ 1 [] w (by simp) hP ((kx.cell 0).trans rfl)
  rw [pNum_ok [] 1 (by omega) (by omega)] at KN
  refine KN.mono ?_
  rintro e w1 ⟨⟨o, ho, rfl, P1⟩ | ⟨ho, rfl⟩, k1⟩
  rotate_left
  · cases ho
  have ho' := Option.some.inj ho
  subst ho'
  have kx1 := kx.kp k1 hne
  have s1 := hs.kp k1
  have c0 : w1.cell? ⟨xb, 0, none⟩ = some (.int .i64 1) := kx1.cell 0
  have z1 := kx1.lt
  clear KN ho
  go_wp2_with fail
  have KV := pvote_any base b xb 1 h rd 1 false 0 f ([] ++ numB 1) w1 (by omega) (by have := numB_len 1; simp; omega) P1 s1 ⟨(kx1.cell 1).trans rfl, (kx1.cell 2).trans rfl, (kx1.cell 3).trans rfl, (kx1.cell 4).trans rfl, (kx1.cell 5).trans rfl, (kx1.cell 6).trans rfl⟩
  rw [voteP_ok _ h rd f hh hr hf] at KV
  refine KV.mono ?_
  rintro e w2 ⟨⟨o, ho, rfl, P2⟩ | ⟨ho, rfl⟩, k2⟩
  rotate_left
  · cases ho
  have ho' := Option.some.inj ho
  subst ho'
  have K2 := k1.trans k2
  clear KV ho
  go_wp2
  go_end0
  exact ⟨.inl ⟨_, rfl, rfl, by simpa [recBy] using P2⟩, K2⟩

set_option maxHeartbeats 1600000 in
theorem putRecord_v (h rd f : Int) (w : World) (hh : 0 ≤ h ∧ h ≤ 1099511627775) (hr : 0 ≤ rd ∧ rd ≤ 1099511627775) (hf : 1 ≤ f ∧ f ≤ 1099511627775) :
    Calls Try.prog 14 #[.agg (RC h rd f)] w fun e w' => e = .returned (.tuple #[.string ⟨(recBy h rd 1 false 0 f).toArray⟩, .int .i64 0]) ∧ Below w.heap.size w w' := by
  have K0 := put_Record (RC h rd f) rfl (some (recBy h rd 1 false 0 f)) true (w.alloc (.cells (RC h rd f) 54)) (fun b w5 hP kX hne hb => precord_v (w.alloc (.cells (RC h rd f) 54)).heap.size b (w.alloc (.cells (RC h rd f) 54)).heap.size h rd f w5 hh hr ⟨by omega, hf.2⟩ hP kX hne) (fun w5 _ => mayRecord_v h rd f hf.1 w5)
  have e1 : resB (some (recBy h rd 1 false 0 f)) true = recBy h rd 1 false 0 f := rfl
  have e2 : resE (some (recBy h rd 1 false 0 f)) true = 0 := rfl
  rw [e1, e2] at K0
  clear e1 e2
  have kX := Blk.new w (RC h rd f) 54
  have hCn := RC_size h rd f
  generalize RC h rd f = C at *
  generalize recBy h rd 1 false 0 f = B at *
  go_enter Try.func14, Try.ntmps14
  go_upto_region 1 with fail
  refine wp_region_list ?_
  refine wpList_load_whole (by kernel_rfl) 54 _ rfl w.heap.size rfl C _ _ kX Try.underlying54 rfl (by rw [hCn]; kernel_rfl) ?_
  refine wpList_on (by kernel_rfl) (fun K hK => ?_)
  go_simp
  refine K0.mono ?_
  rintro e w1 ⟨rfl, b1⟩
  refine hK _ _ ?_
  clear hK K
  refine wpList_plain rfl (fun K hK => ?_)
  go_simp
  refine hK _ _ ?_
  clear hK K
  refine wpList_plain rfl (fun K hK => ?_)
  go_simp
  refine hK _ _ ?_
  clear hK K
  refine wpList_plain rfl (fun K hK => ?_)
  go_simp
  refine hK _ _ ?_
  clear hK K
  refine wpList_plain rfl (fun K hK => ?_)
  go_simp
  refine hK _ _ ?_
  clear hK K
  refine wpList_nil ?_
  simp only [Exit.then]
  go_wp2
  go_ret2
  exact ⟨rfl, ((Below.refl _ _).alloc (Nat.le_refl _) _).trans (b1.mono (by simp))⟩
end Go.Proofs.Ytaidiomaaldphaa
