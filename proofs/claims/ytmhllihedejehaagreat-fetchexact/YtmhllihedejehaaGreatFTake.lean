/- A node that fits is taken. -/
import Derived.Test.YtmhllihedejehaaGreatM17
import Derived.Test.YtmhllihedejehaaGreatM18
namespace Go.Proofs.YtmhllihedejehaaGreat
open Go.RowKit Go.Maps
set_option linter.unusedVariables false
set_option linter.unusedSimpArgs false

/-- What is left behind a node: what is wanted, what was kept. -/
def Taken (base : Nat) (w : World) (fb : Nat) (wd root : Int) (pt : PT) (o : Option Tr) (bar : List Int) (mb : Nat) (L : List (Key × Int)) (w' : World) : Prop :=
  ∃ (pt' : PT) (q' : Option Addr), FetAt base w' fb wd root pt' o bar q' mb ∧ pt'.wants [] = L ∧ Sv (fb :: pt.bs) w w'
section
variable {base : Nat} {fb : Nat} {wd root : Int} {pt : PT} {o : Option Tr} {bar : List Int} {q : Option Addr} {mb : Nat}

set_option maxRecDepth 8000 in
set_option maxHeartbeats 3200000 in
theorem take_fork (b : Nat) (d pos l r : Int) (ws : Key) (key val : Key) (A B : List (Key × Int)) (w : World) (hB : base ≤ w.heap.size) (H : FetAt base w fb wd root pt o bar q mb) (hg : pt.get ws = some (.is b d .no .no)) (hw : pt.wants [] = A ++ (ws, d) :: B) :
    Calls Tryz.prog 33 #[.pointer (some ⟨fb, 0, none⟩), .pointer (some ⟨b, 0, none⟩), .agg #[.int .i64 2, .string (str key), .string (str val), .int .i64 pos, .int .u64 l, .int .u64 r]] w fun e w' => (∃ v, e = .returned v) ∧ Taken base w fb wd root pt o bar mb (A ++ ((ws ++ [48], l) :: (ws ++ [49], r) :: B)) w' := by
  have bA : Below w.heap.size w (w.alloc (.cells #[.int .i64 2, .string (str key), .string (str val), .int .i64 pos, .int .u64 l, .int .u64 r] 28)) := (Below.refl _ _).alloc (Nat.le_refl _) _
  have H1 := H.below bA
  obtain ⟨up, hP, _, _⟩ := PlAt.get ws H1.pl hg
  have kP := hP.1
  have K := fork_any b d l r up _ hP.1
  clear hP
  go_enter Tryz.func33, Tryz.ntmps33
  go_wp2_with fail
  refine K.mono ?_
  clear K
  generalize w.alloc (.cells #[.int .i64 2, .string (str key), .string (str val), .int .i64 pos, .int .u64 l, .int .u64 r] 28) = w1 at *
  rintro e w2 ⟨⟨v, rfl⟩, O, P2⟩
  have hS1 : Sv (fb :: pt.bs) w1 w2 := Sv.of_only (List.mem_cons_of_mem _ (PT.get_bs ws pt hg)) O
  have hz1 := bA.size
  have pl2 : PlAt w2 none (pt.put ws (.is b d (.is w1.heap.size l .no .no) (.is (w1.heap.size + 1) r .no .no))) := PlAt.put ws H1.pl hg H1.nd (fun k hk hne => O.same k (H1.pl.lt k hk) hne) (fun up' hu => by
    have e5 : up' = up := by have := kP.symm.trans hu; simp at this; exact this.symm
    subst e5
    exact P2)
  obtain ⟨X, Y, eX, fX⟩ := PT.bs_ctx ws pt _ hg
  have eX : pt.bs = X ++ (b :: Y) := by rw [eX]; simp [PT.bs]
  have fX : (pt.put ws (.is b d (.is w1.heap.size l .no .no) (.is (w1.heap.size + 1) r .no .no))).bs = X ++ (b :: w1.heap.size :: (w1.heap.size + 1) :: Y) := by rw [fX]; simp [PT.bs]
  have hperm : (X ++ (b :: w1.heap.size :: (w1.heap.size + 1) :: Y)).Perm (w1.heap.size :: (w1.heap.size + 1) :: pt.bs) := by
    have e1 : X ++ (b :: w1.heap.size :: (w1.heap.size + 1) :: Y) = (X ++ [b]) ++ w1.heap.size :: ((w1.heap.size + 1) :: Y) := by simp
    have e2 : pt.bs = (X ++ [b]) ++ Y := by rw [eX]; simp
    rw [e1, e2]
    exact List.perm_middle.trans (List.Perm.cons _ List.perm_middle)
  have nd2 : (pt.put ws (.is b d (.is w1.heap.size l .no .no) (.is (w1.heap.size + 1) r .no .no))).bs.Nodup := by
    rw [fX, hperm.nodup_iff, List.nodup_cons, List.nodup_cons]
    refine ⟨fun hm => ?_, fun hm => ?_, H1.nd⟩
    · rcases List.mem_cons.1 hm with e | e
      · omega
      · have := H1.pl.lt _ e; omega
    · have := H1.pl.lt _ hm; omega
  have lp2 : ∀ x ∈ (pt.put ws (.is b d (.is w1.heap.size l .no .no) (.is (w1.heap.size + 1) r .no .no))).bs, base ≤ x := by
    intro x hx
    rw [fX, hperm.mem_iff] at hx
    rcases List.mem_cons.1 hx with e | e
    · omega
    · rcases List.mem_cons.1 e with e | e
      · omega
      · exact H1.lp x e
  have hfn : fb ≠ b := fun e => by
    have := kP.symm.trans (e ▸ H1.k)
    simp at this
  have k2 := (O.same fb H1.k.lt hfn).trans H1.k
  have H2 : FetAt base w2 fb wd root (pt.put ws (.is b d (.is w1.heap.size l .no .no) (.is (w1.heap.size + 1) r .no .no))) o bar q mb := H1.turn hS1 (by rw [PT.at_put ws pt b d d .no .no _ _ hg]; exact k2) pl2 nd2 lp2
  have W2 : (pt.put ws (.is b d (.is w1.heap.size l .no .no) (.is (w1.heap.size + 1) r .no .no))).wants [] = A ++ ((ws ++ [48], l) :: (ws ++ [49], r) :: B) := by
    obtain ⟨A0, B0, hA, hi, _⟩ := PT.ctx ws pt _ [] hg rfl
    have h0 := hA (.is b d .no .no) rfl
    have hn := PT.wants_nodup pt []
    rw [hi, hw, List.nil_append] at h0
    rw [hw] at hn
    have h0 : A ++ (ws, d) :: B = A0 ++ (ws, d) :: B0 := h0
    obtain ⟨q1, _, q2⟩ := split_uniq h0 hn
    rw [hA _ rfl, List.nil_append, ← q1, ← q2]
    rfl
  have S2 : Sv (fb :: pt.bs) w w2 := (Sv.of_below bA).trans hS1
  clear O P2 hS1 pl2 nd2 lp2 k2 kP eX fX hperm H1 H
  go_wp2
  refine bodyPost_ret (results_none rfl _ _ _) rfl ?_
  exact ⟨⟨_, rfl⟩, _, q, H2, W2, S2⟩

set_option maxRecDepth 8000 in
set_option maxHeartbeats 3200000 in
theorem take_bare (b : Nat) (d pos l r : Int) (ws : Key) (key val : Key) (A B : List (Key × Int)) (w : World) (hB : base ≤ w.heap.size) (H : FetAt base w fb wd root pt o bar q mb) (hg : pt.get ws = some (.is b d .no .no)) (hw : pt.wants [] = A ++ (ws, d) :: B) :
    Calls Tryz.prog 33 #[.pointer (some ⟨fb, 0, none⟩), .pointer (some ⟨b, 0, none⟩), .agg #[.int .i64 0, .string (str key), .string (str val), .int .i64 pos, .int .u64 l, .int .u64 r]] w fun e w' => (∃ v, e = .returned v) ∧ Taken base w fb wd root pt o bar mb (A ++ B) w' := by
  have bA : Below w.heap.size w (w.alloc (.cells #[.int .i64 0, .string (str key), .string (str val), .int .i64 pos, .int .u64 l, .int .u64 r] 28)) := (Below.refl _ _).alloc (Nat.le_refl _) _
  have H1 := H.below bA
  have KE := end_any' fb b d _ _ _ _ _ pt ws A B _ H1.k H1.pl H1.nd hg hw
  go_enter Tryz.func33, Tryz.ntmps33
  go_wp2_with fail
  refine KE.mono ?_
  clear KE
  generalize w.alloc (.cells #[.int .i64 0, .string (str key), .string (str val), .int .i64 pos, .int .u64 l, .int .u64 r] 28) = w1 at *
  rintro e w2 ⟨⟨v, rfl⟩, pt', k7, p7, n7, s7, wt7, sv7⟩
  have H2 := H1.turn sv7 k7 p7 n7 (fun x hx => H1.lp x (s7 x hx))
  have S2 : Sv (fb :: pt.bs) w w2 := (Sv.of_below bA).trans sv7
  clear k7 p7 n7 s7 sv7 H1 H
  go_wp2
  go_end0
  exact ⟨⟨_, rfl⟩, pt', q, H2, wt7, S2⟩

set_option maxRecDepth 8000 in
set_option maxHeartbeats 6400000 in
theorem take_leaf (b : Nat) (d pos l r : Int) (ws : Key) (key val : Key) (A B : List (Key × Int)) (w : World) (hwd : okW wd) (hk : key.length ≤ 32) (hv : val.length ≤ 4096) (hB : base ≤ w.heap.size) (H : FetAt base w fb wd root pt o bar q mb) (hg : pt.get ws = some (.is b d .no .no)) (hw : pt.wants [] = A ++ (ws, d) :: B) :
    Calls Tryz.prog 33 #[.pointer (some ⟨fb, 0, none⟩), .pointer (some ⟨b, 0, none⟩), .agg #[.int .i64 1, .string (str key), .string (str val), .int .i64 pos, .int .u64 l, .int .u64 r]] w fun e w' => (∃ v, e = .returned v) ∧ Taken base w fb wd root pt (putO key val o) bar mb (A ++ B) w' := by
  have bA : Below w.heap.size w (w.alloc (.cells #[.int .i64 1, .string (str key), .string (str val), .int .i64 pos, .int .u64 l, .int .u64 r] 28)) := (Below.refl _ _).alloc (Nat.le_refl _) _
  have kn := Blk.new w #[.int .i64 1, .string (str key), .string (str val), .int .i64 pos, .int .u64 l, .int .u64 r] 28
  have HH := show Hid (_) from H.below bA
  have HB : Hid (Sv (fb :: pt.bs) w _) := Sv.of_below bA
  have hgood : Hid (Good (putO key val o)) := (putO_spec key val o H.gd hk hv).1
  have hget : Hid (_) := hg
  have hwants : Hid (_) := hw
  go_enter Tryz.func33, Tryz.ntmps33
  go_upto_region 5 with fail
  clear H hg hw
  generalize w.alloc (.cells #[.int .i64 1, .string (str key), .string (str val), .int .i64 pos, .int .u64 l, .int .u64 r] 28) = wB at *
  have F3 : ∀ w', Below wB.heap.size wB w' → w'.cell? ⟨fb, 3, none⟩ = some (.int .i64 wd) := fun w' h => ((HH.out.k.below h HH.out.k.lt).cell 3).trans rfl
  have F4 : ∀ w', Below wB.heap.size wB w' → w'.cell? ⟨fb, 4, none⟩ = some (.pointer q) := fun w' h => ((HH.out.k.below h HH.out.k.lt).cell 4).trans rfl
  have N1 : ∀ w', Below wB.heap.size wB w' → w'.cell? ⟨w.heap.size, 1, none⟩ = some (.string (str key)) := fun w' h => ((kn.below h kn.lt).cell 1).trans rfl
  have N2 : ∀ w', Below wB.heap.size wB w' → w'.cell? ⟨w.heap.size, 2, none⟩ = some (.string (str val)) := fun w' h => ((kn.below h kn.lt).cell 2).trans rfl
  have KP := fun w' (h : Below wB.heap.size wB w') => put_any wd q o key val w' hwd hk hv HH.out.gd (TopAt.below h HH.out.tr)
  clear kn bA
  have hHeld : Below wB.heap.size wB wB.drew := (Below.refl _ _).drew
  refine wp_region_late (fun w' => Below wB.heap.size wB w') 15 (by kernel_rfl) ?_
  refine wpAnyM_take (i := 0) (v := ?_) rfl (by kernel_rfl) (by kernel_rfl) (by kernel_rfl) (by kernel_rfl) (by decide) (by kernel_rfl) (fun _ _ _ h => h) (Or.inl ⟨by kernel_rfl, ?_⟩) (by assumption) ?_
  rotate_left
  · intro w' hSw
    have y_F3 := F3 _ hSw
    have y_F4 := F4 _ hSw
    have y_N1 := N1 _ hSw
    have y_N2 := N2 _ hSw
    go_simp
    try (with_reducible rfl)
  simp only [Act.put, List.getElem_toArray, List.getElem_cons_succ, List.getElem_cons_zero, List.setIfInBounds_toArray, List.set_cons_zero, List.set_cons_succ]
  refine wpAnyM_take (i := 1) (v := ?_) rfl (by kernel_rfl) (by kernel_rfl) (by kernel_rfl) (by kernel_rfl) (by decide) (by kernel_rfl) (fun _ _ _ h => h) (Or.inl ⟨by kernel_rfl, ?_⟩) (by assumption) ?_
  rotate_left
  · intro w' hSw
    have y_F3 := F3 _ hSw
    have y_F4 := F4 _ hSw
    have y_N1 := N1 _ hSw
    have y_N2 := N2 _ hSw
    go_simp
    try (with_reducible rfl)
  simp only [Act.put, List.getElem_toArray, List.getElem_cons_succ, List.getElem_cons_zero, List.setIfInBounds_toArray, List.set_cons_zero, List.set_cons_succ]
  refine wpAnyM_take (i := 2) (v := ?_) rfl (by kernel_rfl) (by kernel_rfl) (by kernel_rfl) (by kernel_rfl) (by decide) (by kernel_rfl) (fun _ _ _ h => h) (Or.inl ⟨by kernel_rfl, ?_⟩) (by assumption) ?_
  rotate_left
  · intro w' hSw
    have y_F3 := F3 _ hSw
    have y_F4 := F4 _ hSw
    have y_N1 := N1 _ hSw
    have y_N2 := N2 _ hSw
    go_simp
    try (with_reducible rfl)
  simp only [Act.put, List.getElem_toArray, List.getElem_cons_succ, List.getElem_cons_zero, List.setIfInBounds_toArray, List.set_cons_zero, List.set_cons_succ]
  refine wpAnyM_take (i := 3) (v := ?_) rfl (by kernel_rfl) (by kernel_rfl) (by kernel_rfl) (by kernel_rfl) (by decide) (by kernel_rfl) (fun _ _ _ h => h) (Or.inl ⟨by kernel_rfl, ?_⟩) (by assumption) ?_
  rotate_left
  · intro w' hSw
    have y_F3 := F3 _ hSw
    have y_F4 := F4 _ hSw
    have y_N1 := N1 _ hSw
    have y_N2 := N2 _ hSw
    go_simp
    try (with_reducible rfl)
  simp only [Act.put, List.getElem_toArray, List.getElem_cons_succ, List.getElem_cons_zero, List.setIfInBounds_toArray, List.set_cons_zero, List.set_cons_succ]
  refine wpAnyM_take (i := 4) (v := ?_) rfl (by kernel_rfl) (by kernel_rfl) (by kernel_rfl) (by kernel_rfl) (by decide) (by kernel_rfl) (fun _ _ _ h => h) (Or.inl ⟨by kernel_rfl, ?_⟩) (by assumption) ?_
  rotate_left
  · intro w' hSw
    have y_F3 := F3 _ hSw
    have y_F4 := F4 _ hSw
    have y_N1 := N1 _ hSw
    have y_N2 := N2 _ hSw
    go_simp
    try (with_reducible rfl)
  simp only [Act.put, List.getElem_toArray, List.getElem_cons_succ, List.getElem_cons_zero, List.setIfInBounds_toArray, List.set_cons_zero, List.set_cons_succ]
  refine wpAnyM_take (i := 5) (v := ?_) rfl (by kernel_rfl) (by kernel_rfl) (by kernel_rfl) (by kernel_rfl) (by decide) (by kernel_rfl) (fun _ _ _ h => h) (Or.inl ⟨by kernel_rfl, ?_⟩) (by assumption) ?_
  rotate_left
  · intro w' hSw
    have y_F3 := F3 _ hSw
    have y_F4 := F4 _ hSw
    have y_N1 := N1 _ hSw
    have y_N2 := N2 _ hSw
    go_simp
    try (with_reducible rfl)
  simp only [Act.put, List.getElem_toArray, List.getElem_cons_succ, List.getElem_cons_zero, List.setIfInBounds_toArray, List.set_cons_zero, List.set_cons_succ]
  refine wpAnyM_take (i := 6) (v := ?_) rfl (by kernel_rfl) (by kernel_rfl) (by kernel_rfl) (by kernel_rfl) (by decide) (by kernel_rfl) (fun _ _ _ h => h) (Or.inl ⟨by kernel_rfl, ?_⟩) (by assumption) ?_
  rotate_left
  · intro w' hSw
    have y_F3 := F3 _ hSw
    have y_F4 := F4 _ hSw
    have y_N1 := N1 _ hSw
    have y_N2 := N2 _ hSw
    go_simp
    try (with_reducible rfl)
  simp only [Act.put, List.getElem_toArray, List.getElem_cons_succ, List.getElem_cons_zero, List.setIfInBounds_toArray, List.set_cons_zero, List.set_cons_succ]
  refine wpAnyM_take (i := 7) (v := ?_) rfl (by kernel_rfl) (by kernel_rfl) (by kernel_rfl) (by kernel_rfl) (by decide) (by kernel_rfl) (fun _ _ _ h => h) (Or.inl ⟨by kernel_rfl, ?_⟩) (by assumption) ?_
  rotate_left
  · intro w' hSw
    have y_F3 := F3 _ hSw
    have y_F4 := F4 _ hSw
    have y_N1 := N1 _ hSw
    have y_N2 := N2 _ hSw
    go_simp
    try (with_reducible rfl)
  simp only [Act.put, List.getElem_toArray, List.getElem_cons_succ, List.getElem_cons_zero, List.setIfInBounds_toArray, List.set_cons_zero, List.set_cons_succ]
  refine wpAnyM_take (i := 8) (v := ?_) rfl (by kernel_rfl) (by kernel_rfl) (by kernel_rfl) (by kernel_rfl) (by decide) (by kernel_rfl) (fun _ _ _ h => h) (Or.inl ⟨by kernel_rfl, ?_⟩) (by assumption) ?_
  rotate_left
  · intro w' hSw
    have y_F3 := F3 _ hSw
    have y_F4 := F4 _ hSw
    have y_N1 := N1 _ hSw
    have y_N2 := N2 _ hSw
    go_simp
    try (with_reducible rfl)
  simp only [Act.put, List.getElem_toArray, List.getElem_cons_succ, List.getElem_cons_zero, List.setIfInBounds_toArray, List.set_cons_zero, List.set_cons_succ]
  refine wpAnyM_one (i := 9) (by kernel_rfl) ?_
  refine wpOp_step rfl (fun K hK => ?_)
  go_simp
  refine (KP _ (by assumption)).mono ?_
  rintro e w5 ⟨q5, rfl, hT5, b5⟩
  have hN : Below wB.heap.size wB w5 := hHeld.trans (b5.mono hHeld.size)
  refine hK _ _ ⟨fun _ => hN, ?_⟩
  clear hK K
  try simp only [Act.put, List.getElem_toArray, List.getElem_cons_succ, List.getElem_cons_zero, List.setIfInBounds_toArray, List.set_cons_zero, List.set_cons_succ]
  refine wpAnyM_pure (i := 10) (v := ?_) rfl (by kernel_rfl) (by kernel_rfl) (by kernel_rfl) (by decide) (fun _ _ _ h => h) (Or.inl ⟨by kernel_rfl, ?_⟩) (by assumption) ?_
  rotate_left
  · intro w' _
    go_simp
    try (with_reducible rfl)
  simp only [Act.put, List.getElem_toArray, List.getElem_cons_succ, List.getElem_cons_zero, List.setIfInBounds_toArray, List.set_cons_zero, List.set_cons_succ]
  refine wpAnyM_pure (i := 11) (v := ?_) rfl (by kernel_rfl) (by kernel_rfl) (by kernel_rfl) (by decide) (fun _ _ _ h => h) (Or.inl ⟨by kernel_rfl, ?_⟩) (by assumption) ?_
  rotate_left
  · intro w' _
    go_simp
    try (with_reducible rfl)
  simp only [Act.put, List.getElem_toArray, List.getElem_cons_succ, List.getElem_cons_zero, List.setIfInBounds_toArray, List.set_cons_zero, List.set_cons_succ]
  refine wpAnyM_pure (i := 12) (v := ?_) rfl (by kernel_rfl) (by kernel_rfl) (by kernel_rfl) (by decide) (fun _ _ _ h => h) (Or.inl ⟨by kernel_rfl, ?_⟩) (by assumption) ?_
  rotate_left
  · intro w' _
    go_simp
    try (with_reducible rfl)
  simp only [Act.put, List.getElem_toArray, List.getElem_cons_succ, List.getElem_cons_zero, List.setIfInBounds_toArray, List.set_cons_zero, List.set_cons_succ]
  refine wpAnyM_pure (i := 13) (v := ?_) rfl (by kernel_rfl) (by kernel_rfl) (by kernel_rfl) (by decide) (fun _ _ _ h => h) (Or.inl ⟨by kernel_rfl, ?_⟩) (by assumption) ?_
  rotate_left
  · intro w' _
    go_simp
    try (with_reducible rfl)
  simp only [Act.put, List.getElem_toArray, List.getElem_cons_succ, List.getElem_cons_zero, List.setIfInBounds_toArray, List.set_cons_zero, List.set_cons_succ]
  refine wpAnyM_pure (i := 14) (v := ?_) rfl (by kernel_rfl) (by kernel_rfl) (by kernel_rfl) (by decide) (fun _ _ _ h => h) (Or.inl ⟨by kernel_rfl, ?_⟩) (by assumption) ?_
  rotate_left
  · intro w' _
    go_simp
    try (with_reducible rfl)
  simp only [Act.put, List.getElem_toArray, List.getElem_cons_succ, List.getElem_cons_zero, List.setIfInBounds_toArray, List.set_cons_zero, List.set_cons_succ]
  have H5 := HH.out.below hN
  have T5 := FetAt.tree H5 hT5 hgood.out
  have y3 := (H5.k.cell 3).trans rfl
  have y4 := (H5.k.cell 4).trans rfl
  have yl := H5.k.lt
  have yf3 := H5.k.frozen 3
  have yf4 := H5.k.frozen 4
  refine wpAnyM_one (i := 15) (by kernel_rfl) ?_
  refine wpOp_step rfl (fun K hK => ?_)
  go_simp
  refine hK _ _ ⟨fun h => absurd h (by decide), ?_⟩
  clear hK K
  refine wpAnyM_done (by kernel_rfl) ?_ _
  try simp only [Exit.then]
  clear y3 y4 yl yf3 yf4
  obtain ⟨H6, S6⟩ := T5
  generalize (w5.setCell ⟨fb, 3, none⟩ (.int .i64 wd)).setCell ⟨fb, 4, none⟩ (.pointer q5) = w6 at *
  have KE := end_any' fb b d _ _ _ _ _ pt ws A B w6 H6.k H6.pl H6.nd hget.out hwants.out
  clear KP F3 F4 N1 N2 hHeld
  go_wp2_with fail
  refine KE.mono ?_
  rintro e w7 ⟨⟨v7, rfl⟩, pt', k7, p7, n7, s7, wt7, sv7⟩
  go_wp2
  go_end0
  have hz5 := hN.size
  have O1 : Sv (fb :: pt.bs) w w7 := (HB.out.trans (Sv.of_below hN)).trans (S6.trans sv7)
  exact ⟨⟨_, rfl⟩, pt', q5, H6.turn sv7 k7 p7 n7 (fun x hx => H6.lp x (s7 x hx)), wt7, O1⟩
end
end Go.Proofs.YtmhllihedejehaaGreat
