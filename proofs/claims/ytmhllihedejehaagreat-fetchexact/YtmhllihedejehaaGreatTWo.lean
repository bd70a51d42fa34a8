/- A tree without a key. -/
import Derived.Test.YtmhllihedejehaaGreatM08
import Derived.Deep.RegionHeld3
namespace Go.Proofs.YtmhllihedejehaaGreat
open Go.RowKit
set_option linter.unusedVariables false

theorem Tr.placed_without (key : Key) (t : Tr) (h : t.placed) : ∀ u, t.without key = some u → u.placed := by
  induction t with
  | leaf k v => intro u hu; simp [Tr.without] at hu
  | fork p l r ihl ihr =>
    obtain ⟨h1, h2, h3⟩ := h
    intro u hu
    simp only [Tr.without] at hu
    split at hu
    · split at hu
      · cases hu; exact h3
      · rename_i l' hl'; cases hu; exact ⟨h1, ihl h2 l' hl', h3⟩
    · split at hu
      · cases hu; exact h2
      · rename_i r' hr'; cases hu; exact ⟨h1, h2, ihr h3 r' hr'⟩

/-- A region's worlds, and what lies in them. -/
theorem side_0 (b bl br : Nat) (d pl : Int) (s1 s2 : ByteArray) (w : World) (h : Blk w b #[.int .u64 d, .string s1, .string s2, .int .i64 pl, .pointer (some ⟨bl, 0, none⟩), .pointer (some ⟨br, 0, none⟩)] 103) :
    Calls Tryz.prog 66 #[.pointer (some ⟨b, 0, none⟩), .int .i64 0] w fun e w' => e = .returned (.pointer (some ⟨bl, 0, none⟩)) ∧ w = w' := side_any b 0 bl br d pl s1 s2 w (.inl rfl) h
theorem side_1 (b bl br : Nat) (d pl : Int) (s1 s2 : ByteArray) (w : World) (h : Blk w b #[.int .u64 d, .string s1, .string s2, .int .i64 pl, .pointer (some ⟨bl, 0, none⟩), .pointer (some ⟨br, 0, none⟩)] 103) :
    Calls Tryz.prog 66 #[.pointer (some ⟨b, 0, none⟩), .int .i64 1] w fun e w' => e = .returned (.pointer (some ⟨br, 0, none⟩)) ∧ w = w' := side_any b 1 bl br d pl s1 s2 w (.inr rfl) h
theorem bit_0 (k : Key) (p : Nat) (w : World) (hk : k.length ≤ maxLen) (hp : p ≤ 100000000) (hb : bitP k p = 0) :
    Calls Tryz.prog 67 #[.string (str k), .int .i64 p] w fun e w' => e = .returned (.int .i64 0) ∧ w = w' := by
  have := bit_any k p w hk hp
  rw [hb] at this
  exact this
theorem bit_1 (k : Key) (p : Nat) (w : World) (hk : k.length ≤ maxLen) (hp : p ≤ 100000000) (hb : bitP k p = 1) :
    Calls Tryz.prog 67 #[.string (str k), .int .i64 p] w fun e w' => e = .returned (.int .i64 1) ∧ w = w' := by
  have := bit_any k p w hk hp
  rw [hb] at this
  exact this

theorem without_leaf (wd : Int) (q : Option Addr) (key k v : Key) (b : Nat) (w : World) (hn : NodeAt wd w b (.leaf k v)) :
    Calls Tryz.prog 46 #[.agg #[.int .i64 wd, .pointer q], .pointer (some ⟨b, 0, none⟩), .string (str key)] w fun e w' => ∃ u, e = .returned u ∧ TopAt wd w' u ((Tr.leaf k v).without key) ∧ Below w.heap.size w w' := by
  have bA : Below w.heap.size w (w.alloc (.cells #[.int .i64 wd, .pointer q] 34)) := (Below.refl _ _).alloc (Nat.le_refl _) _
  have key1 := forks_leaf wd b k v _ (NodeAt.below bA hn)
  go_enter Tryz.func46, Tryz.ntmps46
  go_wp2_with fail
  refine key1.mono ?_
  rintro e w1 ⟨rfl, rfl⟩
  go_wp2
  go_ret
  exact ⟨_, rfl, rfl, bA⟩

set_option maxHeartbeats 3200000 in
theorem without_0 (wd : Int) (q : Option Addr) (key : Key) (hw : okW wd) (hk : key.length ≤ maxLen) (p : Nat) (l r : Tr) (hb : bitP key p = 0) (b : Nat) (w : World) (hp1 : p ≤ 100000000) (hn : NodeAt wd w b (.fork p l r))
    (ih : ∀ (c : Nat) (w : World), NodeAt wd w c l → Calls Tryz.prog 46 #[.agg #[.int .i64 wd, .pointer q], .pointer (some ⟨c, 0, none⟩), .string (str key)] w fun e w' => ∃ v, e = .returned v ∧ TopAt wd w' v (l.without key) ∧ Below w.heap.size w w') :
    Calls Tryz.prog 46 #[.agg #[.int .i64 wd, .pointer q], .pointer (some ⟨b, 0, none⟩), .string (str key)] w fun e w' => ∃ v, e = .returned v ∧ TopAt wd w' v ((Tr.fork p l r).without key) ∧ Below w.heap.size w w' := by
  have HW : Hid ((Tr.fork p l r).without key = (match l.without key with | none => some r | some u => some (Tr.fork p u r))) := by
    show _ = _
    simp only [Tr.without]
    rw [if_pos (by omega)]
    cases l.without key <;> rfl
  have bA : Below w.heap.size w (w.alloc (.cells #[.int .i64 wd, .pointer q] 34)) := (Below.refl _ _).alloc (Nat.le_refl _) _
  have kT := Blk.new w #[.int .i64 wd, .pointer q] 34
  have hnA := NodeAt.below bA hn
  go_enter Tryz.func46, Tryz.ntmps46
  go_wp2_with fail
  generalize w.alloc (.cells #[.int .i64 wd, .pointer q] 34) = wA at *
  have key1 := forks_fork wd b p l r wA hnA
  obtain ⟨bl, br, kB, nl, nr⟩ := hnA
  have key2 := bit_0 key p wA hk hp1 hb
  clear hb
  have c3 := kB.cell 3
  simp only [List.getElem?_toArray, List.getElem?_cons_succ, List.getElem?_cons_zero] at c3
  refine key1.mono ?_
  rintro e w' ⟨rfl, rfl⟩
  go_wp2_with fail
  refine key2.mono ?_
  rintro e w' ⟨rfl, rfl⟩
  go_upto_region 4 with fail
  clear key1 key2
  have t0 := kT.cell 0
  have t1 := kT.cell 1
  simp only [List.getElem?_toArray, List.getElem?_cons_succ, List.getElem?_cons_zero] at t0 t1
  have T0 : ∀ w', Below wA.heap.size wA w' → w'.cell? ⟨w.heap.size, 0, none⟩ = some (.int .i64 wd) := fun w' h => by rw [h.cell (p := ⟨w.heap.size, 0, none⟩) kT.lt]; exact t0
  have T1 : ∀ w', Below wA.heap.size wA w' → w'.cell? ⟨w.heap.size, 1, none⟩ = some (.pointer q) := fun w' h => by rw [h.cell (p := ⟨w.heap.size, 1, none⟩) kT.lt]; exact t1
  have K3 : ∀ w', Below wA.heap.size wA w' → Calls Tryz.prog 66 #[.pointer (some ⟨b, 0, none⟩), .int .i64 0] w' fun e w'' => e = .returned (.pointer (some ⟨bl, 0, none⟩)) ∧ w' = w'' := fun w' h => side_0 b bl br _ _ _ _ w' (kB.below h kB.lt)
  have K4 : ∀ w', Below wA.heap.size wA w' → Calls Tryz.prog 46 #[.agg #[.int .i64 wd, .pointer q], .pointer (some ⟨bl, 0, none⟩), .string (str key)] w' fun e w'' => ∃ v, e = .returned v ∧ TopAt wd w'' v (l.without key) ∧ Below w'.heap.size w' w'' := fun w' h => ih bl w' (NodeAt.below h nl)
  have bw : Below wA.heap.size wA wA := Below.refl _ _
  have NO := show Hid (NodeAt wd wA br r) from nr
  have KB := show Hid (Blk _ _ _ _) from kB
  have BA := show Hid (Below _ _ _) from bA
  have ZT := kT.lt
  have ZB := kB.lt
  clear ih nl nr kB bA hn t0 t1 kT c3
  go_cut [8] (fun rv wx => TopAt wd wx rv (l.without key) ∧ Below wA.heap.size wA wx)
  case first =>
    go_region_held3 (fun w' => Below wA.heap.size wA w') (repeat (first | exact bw.drew | exact hNext | assumption | refine Below.drew ?_ | exact bw))
      (first
      | (go_at_call 66
         with_reducible refine (K3 _ (by assumption)).mono ?_
         rintro e w3 ⟨rfl, rfl⟩)
      | (go_at_call 46
         with_reducible refine (K4 _ (by assumption)).mono ?_
         rintro e w3 ⟨v, rfl, hv, b3⟩
         have hNext : Below wA.heap.size wA w3 := Below.trans (by assumption) (b3.mono (Below.size (by assumption)))))
    go_wp2
    go_meet
    case rel => exact ⟨hv, hNext⟩
  case rest =>
    obtain ⟨hv, bx⟩ := hcut
    generalize wc = wx at *
    have bX : Below w.heap.size w wx := BA.out.trans (bx.mono BA.out.size)
    have NX := NodeAt.below bx NO.out
    have KX := KB.out.below bx ZB
    have c3 := KX.cell 3
    simp only [List.getElem?_toArray, List.getElem?_cons_succ, List.getElem?_cons_zero] at c3
    cases hq : l.without key with
    | none =>
      rw [hq] at hv
      have HR : Hid ((Tr.fork p l r).without key = some r) := by show _ = _; rw [HW.out, hq]
      clear hq HW K3 K4 T0 T1
      have e : _ = Value.pointer none := hv
      clear hv
      subst e
      have key3 := side_1 b bl br _ _ _ _ wx KX
      go_wp2_with fail
      refine key3.mono ?_
      rintro e w' ⟨rfl, rfl⟩
      go_wp2
      go_ret
      exact ⟨_, rfl, by rw [HR.out]; exact ⟨br, rfl, NX⟩, bX⟩
    | some u =>
      rw [hq] at hv
      have HR : Hid ((Tr.fork p l r).without key = some (Tr.fork p u r)) := by show _ = _; rw [HW.out, hq]
      clear hq HW K3 K4
      obtain ⟨c, e, hu⟩ := hv
      subst e
      have K5 : ∀ w', Below wx.heap.size wx w' → Calls Tryz.prog 66 #[.pointer (some ⟨b, 0, none⟩), .int .i64 1] w' fun e w'' => e = .returned (.pointer (some ⟨br, 0, none⟩)) ∧ w' = w'' := fun w' h => side_1 b bl br _ _ _ _ w' (KX.below h KX.lt)
      have K6 : ∀ w', Below wx.heap.size wx w' → Calls Tryz.prog 73 #[.int .i64 wd, .int .i64 p, .int .i64 0, .pointer (some ⟨c, 0, none⟩), .pointer (some ⟨br, 0, none⟩)] w' fun e w'' => ∃ z, e = .returned (.pointer (some ⟨z, 0, none⟩)) ∧ NodeAt wd w'' z (mkFork p 0 u r) ∧ Below w'.heap.size w' w'' := fun w' h => forkOf_any wd p 0 c br u r w' hw hp1 (by omega) (NodeAt.below h hu) (NodeAt.below h NX)
      have X0 : ∀ w', Below wx.heap.size wx w' → w'.cell? ⟨w.heap.size, 0, none⟩ = some (.int .i64 wd) := fun w' h => T0 w' (bx.trans (h.mono bx.size))
      have X3 : ∀ w', Below wx.heap.size wx w' → w'.cell? ⟨b, 3, none⟩ = some (.int .i64 p) := fun w' h => by rw [h.cell (p := ⟨b, 3, none⟩) KX.lt]; exact c3
      have bw2 : Below wx.heap.size wx wx := Below.refl _ _
      have BX := show Hid (Below _ _ _) from bX
      clear T0 T1 bw bx hu NX KX c3 NO KB BA bX
      go_upto_region 7 with fail
      go_region_held3 (fun w' => Below wx.heap.size wx w') (repeat (first | exact bw2.drew | exact hNext | assumption | refine Below.drew ?_ | exact bw2))
        (first
        | (go_at_call 66
           refine (K5 _ (by assumption)).mono ?_
           rintro e w3 ⟨rfl, rfl⟩)
        | (go_at_call 73
           with_reducible refine (K6 _ (by assumption)).mono ?_
           rintro e w3 ⟨z, rfl, hz, b3⟩
           have hNext : Below wx.heap.size wx w3 := Below.trans (by assumption) (b3.mono (Below.size (by assumption)))))
      all_goals
        go_wp2
        go_ret
        exact ⟨_, rfl, by rw [HR.out]; exact ⟨z, rfl, hz⟩, BX.out.trans (hNext.mono BX.out.size)⟩

set_option maxHeartbeats 3200000 in
theorem without_1 (wd : Int) (q : Option Addr) (key : Key) (hw : okW wd) (hk : key.length ≤ maxLen) (p : Nat) (l r : Tr) (hb : bitP key p = 1) (b : Nat) (w : World) (hp1 : p ≤ 100000000) (hn : NodeAt wd w b (.fork p l r))
    (ih : ∀ (c : Nat) (w : World), NodeAt wd w c r → Calls Tryz.prog 46 #[.agg #[.int .i64 wd, .pointer q], .pointer (some ⟨c, 0, none⟩), .string (str key)] w fun e w' => ∃ v, e = .returned v ∧ TopAt wd w' v (r.without key) ∧ Below w.heap.size w w') :
    Calls Tryz.prog 46 #[.agg #[.int .i64 wd, .pointer q], .pointer (some ⟨b, 0, none⟩), .string (str key)] w fun e w' => ∃ v, e = .returned v ∧ TopAt wd w' v ((Tr.fork p l r).without key) ∧ Below w.heap.size w w' := by
  have HW : Hid ((Tr.fork p l r).without key = (match r.without key with | none => some l | some u => some (Tr.fork p l u))) := by
    show _ = _
    simp only [Tr.without]
    rw [if_neg (by omega)]
    cases r.without key <;> rfl
  have bA : Below w.heap.size w (w.alloc (.cells #[.int .i64 wd, .pointer q] 34)) := (Below.refl _ _).alloc (Nat.le_refl _) _
  have kT := Blk.new w #[.int .i64 wd, .pointer q] 34
  have hnA := NodeAt.below bA hn
  go_enter Tryz.func46, Tryz.ntmps46
  go_wp2_with fail
  generalize w.alloc (.cells #[.int .i64 wd, .pointer q] 34) = wA at *
  have key1 := forks_fork wd b p l r wA hnA
  obtain ⟨bl, br, kB, nl, nr⟩ := hnA
  have key2 := bit_1 key p wA hk hp1 hb
  clear hb
  have c3 := kB.cell 3
  simp only [List.getElem?_toArray, List.getElem?_cons_succ, List.getElem?_cons_zero] at c3
  refine key1.mono ?_
  rintro e w' ⟨rfl, rfl⟩
  go_wp2_with fail
  refine key2.mono ?_
  rintro e w' ⟨rfl, rfl⟩
  go_upto_region 4 with fail
  clear key1 key2
  have t0 := kT.cell 0
  have t1 := kT.cell 1
  simp only [List.getElem?_toArray, List.getElem?_cons_succ, List.getElem?_cons_zero] at t0 t1
  have T0 : ∀ w', Below wA.heap.size wA w' → w'.cell? ⟨w.heap.size, 0, none⟩ = some (.int .i64 wd) := fun w' h => by rw [h.cell (p := ⟨w.heap.size, 0, none⟩) kT.lt]; exact t0
  have T1 : ∀ w', Below wA.heap.size wA w' → w'.cell? ⟨w.heap.size, 1, none⟩ = some (.pointer q) := fun w' h => by rw [h.cell (p := ⟨w.heap.size, 1, none⟩) kT.lt]; exact t1
  have K3 : ∀ w', Below wA.heap.size wA w' → Calls Tryz.prog 66 #[.pointer (some ⟨b, 0, none⟩), .int .i64 1] w' fun e w'' => e = .returned (.pointer (some ⟨br, 0, none⟩)) ∧ w' = w'' := fun w' h => side_1 b bl br _ _ _ _ w' (kB.below h kB.lt)
  have K4 : ∀ w', Below wA.heap.size wA w' → Calls Tryz.prog 46 #[.agg #[.int .i64 wd, .pointer q], .pointer (some ⟨br, 0, none⟩), .string (str key)] w' fun e w'' => ∃ v, e = .returned v ∧ TopAt wd w'' v (r.without key) ∧ Below w'.heap.size w' w'' := fun w' h => ih br w' (NodeAt.below h nr)
  have bw : Below wA.heap.size wA wA := Below.refl _ _
  have NO := show Hid (NodeAt wd wA bl l) from nl
  have KB := show Hid (Blk _ _ _ _) from kB
  have BA := show Hid (Below _ _ _) from bA
  have ZT := kT.lt
  have ZB := kB.lt
  clear ih nl nr kB bA hn t0 t1 kT c3
  go_cut [8] (fun rv wx => TopAt wd wx rv (r.without key) ∧ Below wA.heap.size wA wx)
  case first =>
    go_region_held3 (fun w' => Below wA.heap.size wA w') (repeat (first | exact bw.drew | exact hNext | assumption | refine Below.drew ?_ | exact bw))
      (first
      | (go_at_call 66
         with_reducible refine (K3 _ (by assumption)).mono ?_
         rintro e w3 ⟨rfl, rfl⟩)
      | (go_at_call 46
         with_reducible refine (K4 _ (by assumption)).mono ?_
         rintro e w3 ⟨v, rfl, hv, b3⟩
         have hNext : Below wA.heap.size wA w3 := Below.trans (by assumption) (b3.mono (Below.size (by assumption)))))
    go_wp2
    go_meet
    case rel => exact ⟨hv, hNext⟩
  case rest =>
    obtain ⟨hv, bx⟩ := hcut
    generalize wc = wx at *
    have bX : Below w.heap.size w wx := BA.out.trans (bx.mono BA.out.size)
    have NX := NodeAt.below bx NO.out
    have KX := KB.out.below bx ZB
    have c3 := KX.cell 3
    simp only [List.getElem?_toArray, List.getElem?_cons_succ, List.getElem?_cons_zero] at c3
    cases hq : r.without key with
    | none =>
      rw [hq] at hv
      have HR : Hid ((Tr.fork p l r).without key = some l) := by show _ = _; rw [HW.out, hq]
      clear hq HW K3 K4 T0 T1
      have e : _ = Value.pointer none := hv
      clear hv
      subst e
      have key3 := side_0 b bl br _ _ _ _ wx KX
      go_wp2_with fail
      refine key3.mono ?_
      rintro e w' ⟨rfl, rfl⟩
      go_wp2
      go_ret
      exact ⟨_, rfl, by rw [HR.out]; exact ⟨bl, rfl, NX⟩, bX⟩
    | some u =>
      rw [hq] at hv
      have HR : Hid ((Tr.fork p l r).without key = some (Tr.fork p l u)) := by show _ = _; rw [HW.out, hq]
      clear hq HW K3 K4
      obtain ⟨c, e, hu⟩ := hv
      subst e
      have K5 : ∀ w', Below wx.heap.size wx w' → Calls Tryz.prog 66 #[.pointer (some ⟨b, 0, none⟩), .int .i64 0] w' fun e w'' => e = .returned (.pointer (some ⟨bl, 0, none⟩)) ∧ w' = w'' := fun w' h => side_0 b bl br _ _ _ _ w' (KX.below h KX.lt)
      have K6 : ∀ w', Below wx.heap.size wx w' → Calls Tryz.prog 73 #[.int .i64 wd, .int .i64 p, .int .i64 1, .pointer (some ⟨c, 0, none⟩), .pointer (some ⟨bl, 0, none⟩)] w' fun e w'' => ∃ z, e = .returned (.pointer (some ⟨z, 0, none⟩)) ∧ NodeAt wd w'' z (mkFork p 1 u l) ∧ Below w'.heap.size w' w'' := fun w' h => forkOf_any wd p 1 c bl u l w' hw hp1 (by omega) (NodeAt.below h hu) (NodeAt.below h NX)
      have X0 : ∀ w', Below wx.heap.size wx w' → w'.cell? ⟨w.heap.size, 0, none⟩ = some (.int .i64 wd) := fun w' h => T0 w' (bx.trans (h.mono bx.size))
      have X3 : ∀ w', Below wx.heap.size wx w' → w'.cell? ⟨b, 3, none⟩ = some (.int .i64 p) := fun w' h => by rw [h.cell (p := ⟨b, 3, none⟩) KX.lt]; exact c3
      have bw2 : Below wx.heap.size wx wx := Below.refl _ _
      have BX := show Hid (Below _ _ _) from bX
      clear T0 T1 bw bx hu NX KX c3 NO KB BA bX
      go_upto_region 7 with fail
      go_region_held3 (fun w' => Below wx.heap.size wx w') (repeat (first | exact bw2.drew | exact hNext | assumption | refine Below.drew ?_ | exact bw2))
        (first
        | (go_at_call 66
           refine (K5 _ (by assumption)).mono ?_
           rintro e w3 ⟨rfl, rfl⟩)
        | (go_at_call 73
           with_reducible refine (K6 _ (by assumption)).mono ?_
           rintro e w3 ⟨z, rfl, hz, b3⟩
           have hNext : Below wx.heap.size wx w3 := Below.trans (by assumption) (b3.mono (Below.size (by assumption)))))
      all_goals
        go_wp2
        go_ret
        exact ⟨_, rfl, by rw [HR.out]; exact ⟨z, rfl, hz⟩, BX.out.trans (hNext.mono BX.out.size)⟩

theorem without_any (wd : Int) (q : Option Addr) (key : Key) (hw : okW wd) (hk : key.length ≤ maxLen) (t : Tr) : ∀ (b : Nat) (w : World), t.placed → NodeAt wd w b t →
    Calls Tryz.prog 46 #[.agg #[.int .i64 wd, .pointer q], .pointer (some ⟨b, 0, none⟩), .string (str key)] w fun e w' => ∃ v, e = .returned v ∧ TopAt wd w' v (t.without key) ∧ Below w.heap.size w w' := by
  induction t with
  | leaf k v => intro b w _ hn; exact without_leaf wd q key k v b w hn
  | fork p l r ihl ihr =>
    intro b w hp hn
    rcases bitP_01 key p with hb | hb
    · exact without_0 wd q key hw hk p l r hb b w hp.1 hn fun c w h => ihl c w hp.2.1 h
    · exact without_1 wd q key hw hk p l r hb b w hp.1 hn fun c w h => ihr c w hp.2.2 h
end Go.Proofs.YtmhllihedejehaaGreat
