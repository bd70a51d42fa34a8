/- A tree with a key. -/
import Derived.Test.YtmhllihedejehaaGreatTWo
import Derived.Deep.RegionHeld3
namespace Go.Proofs.YtmhllihedejehaaGreat
open Go.RowKit
set_option linter.unusedVariables false

theorem below_drewN {B : Nat} {w w' : World} (h : Below B w w') : ∀ n, Below B w (w'.drewN n)
  | 0 => h
  | n + 1 => (below_drewN h n).drew

theorem Tr.placed_with (key value : Key) (place : Nat) (hp : place ≤ 100000000) (t : Tr) (h : t.placed) : (t.with_ key value place).placed := by
  have mk : ∀ (a : Nat) (x y : Tr), x.placed → y.placed → (mkFork place a x y).placed := by
    intro a x y hx hy
    unfold mkFork
    split
    · exact ⟨hp, hx, hy⟩
    · exact ⟨hp, hy, hx⟩
  induction t with
  | leaf k v =>
    simp only [Tr.with_]
    split
    · trivial
    · exact mk _ _ _ trivial trivial
  | fork p l r ihl ihr =>
    obtain ⟨h1, h2, h3⟩ := h
    simp only [Tr.with_]
    split
    · split
      · exact ⟨h1, ihl h2, h3⟩
      · exact ⟨h1, h2, ihr h3⟩
    · exact mk _ _ _ trivial ⟨h1, h2, h3⟩

set_option maxHeartbeats 3200000 in
theorem with_same (wd : Int) (q : Option Addr) (key value : Key) (place : Nat) (hw : okW wd) (hk : key.length ≤ maxLen) (hpl : place ≤ 100000000) (f : Nat) (b : Nat) (w : World) (v : Key) (hn : NodeAt wd w b (.leaf key v)) (hf : NodeAt wd w f (.leaf key value)) :
    Calls Tryz.prog 48 #[.agg #[.int .i64 wd, .pointer q], .pointer (some ⟨b, 0, none⟩), .pointer (some ⟨f, 0, none⟩), .int .i64 place] w fun e w' => ∃ z, e = .returned (.pointer (some ⟨z, 0, none⟩)) ∧ NodeAt wd w' z ((Tr.leaf key v).with_ key value place) ∧ Below w.heap.size w w' := by
  have HT : Hid ((Tr.leaf key v).with_ key value place = .leaf key value) := by show _ = _; simp [Tr.with_]
  have bA : Below w.heap.size w (w.alloc (.cells #[.int .i64 wd, .pointer q] 34)) := (Below.refl _ _).alloc (Nat.le_refl _) _
  have kT := Blk.new w #[.int .i64 wd, .pointer q] 34
  have hnA := NodeAt.below bA hn
  have hfA := NodeAt.below bA hf
  go_enter Tryz.func48, Tryz.ntmps48
  go_upto_region 1 with fail
  generalize w.alloc (.cells #[.int .i64 wd, .pointer q] 34) = wA at *
  have t0 := kT.cell 0
  have t1 := kT.cell 1
  have f1 := Blk.cell hfA 1
  have n1 := Blk.cell hnA 1
  simp only [List.getElem?_toArray, List.getElem?_cons_succ, List.getElem?_cons_zero] at t0 t1 f1 n1
  have N1 : ∀ w', Below wA.heap.size wA w' → w'.cell? ⟨b, 1, none⟩ = some (.string (str key)) := fun w' h => by rw [h.cell (p := ⟨b, 1, none⟩) hnA.lt]; exact n1
  have KF : ∀ w', Below wA.heap.size wA w' → Calls Tryz.prog 65 #[.pointer (some ⟨b, 0, none⟩)] w' fun e w'' => e = .returned (.bool false) ∧ w' = w'' := fun w' h => forks_leaf wd b key v w' (NodeAt.below h hnA)
  have s1 := str_toList key
  have ZT := kT.lt
  have ZF := hfA.lt
  have ZB := hnA.lt
  have T0 : ∀ w', Below wA.heap.size wA w' → w'.cell? ⟨w.heap.size, 0, none⟩ = some (.int .i64 wd) := fun w' h => by rw [h.cell (p := ⟨w.heap.size, 0, none⟩) kT.lt]; exact t0
  have T1 : ∀ w', Below wA.heap.size wA w' → w'.cell? ⟨w.heap.size, 1, none⟩ = some (.pointer q) := fun w' h => by rw [h.cell (p := ⟨w.heap.size, 1, none⟩) kT.lt]; exact t1
  have F1 : ∀ w', Below wA.heap.size wA w' → w'.cell? ⟨f, 1, none⟩ = some (.string (str key)) := fun w' h => by rw [h.cell (p := ⟨f, 1, none⟩) hfA.lt]; exact f1
  have bw : Below wA.heap.size wA wA := Below.refl _ _
  have HF := show Hid (NodeAt _ _ _ _) from hfA
  have HN := show Hid (NodeAt _ _ _ _) from hnA
  have BA := show Hid (Below _ _ _) from bA
  clear hn hf hfA hnA bA kT t0 t1 f1
  go_cut [10] (fun v wx => v = .bool true ∧ Below wA.heap.size wA wx)
  case first =>
    go_region_held3 (fun w' => Below wA.heap.size wA w') (repeat (first | exact bw.drew | exact hNext | assumption | refine Below.drew ?_ | exact bw))
      (first
      | (go_at_call 65
         refine (KF _ (by assumption)).mono ?_
         rintro e w3 ⟨rfl, rfl⟩))
    all_goals
      go_wp2
      go_meet
      case rel => exact ⟨by first | rfl | simp [*], by first | assumption | exact bw.drew⟩
  case rest =>
    obtain ⟨rfl, bx⟩ := hcut
    generalize wc = wx at *
    go_wp2
    go_ret
    exact ⟨f, rfl, by rw [HT.out]; exact NodeAt.below bx HF.out, BA.out.trans (bx.mono BA.out.size)⟩

set_option maxHeartbeats 3200000 in
theorem with_leaf (wd : Int) (q : Option Addr) (key value : Key) (place : Nat) (hw : okW wd) (hk : key.length ≤ maxLen) (hpl : place ≤ 100000000) (f : Nat) (b : Nat) (w : World) (k v : Key) (hne : ¬ k = key) (hn : NodeAt wd w b (.leaf k v)) (hf : NodeAt wd w f (.leaf key value)) :
    Calls Tryz.prog 48 #[.agg #[.int .i64 wd, .pointer q], .pointer (some ⟨b, 0, none⟩), .pointer (some ⟨f, 0, none⟩), .int .i64 place] w fun e w' => ∃ z, e = .returned (.pointer (some ⟨z, 0, none⟩)) ∧ NodeAt wd w' z ((Tr.leaf k v).with_ key value place) ∧ Below w.heap.size w w' := by
  have HT : Hid ((Tr.leaf k v).with_ key value place = mkFork place (bitP key place) (.leaf key value) (.leaf k v)) := by show _ = _; simp [Tr.with_, hne]
  have hnb : (k == key) = false := by simpa using hne
  have bA : Below w.heap.size w (w.alloc (.cells #[.int .i64 wd, .pointer q] 34)) := (Below.refl _ _).alloc (Nat.le_refl _) _
  have kT := Blk.new w #[.int .i64 wd, .pointer q] 34
  have hnA := NodeAt.below bA hn
  have hfA := NodeAt.below bA hf
  go_enter Tryz.func48, Tryz.ntmps48
  go_upto_region 1 with fail
  generalize w.alloc (.cells #[.int .i64 wd, .pointer q] 34) = wA at *
  have t0 := kT.cell 0
  have t1 := kT.cell 1
  have f1 := Blk.cell hfA 1
  have n1 := Blk.cell hnA 1
  simp only [List.getElem?_toArray, List.getElem?_cons_succ, List.getElem?_cons_zero] at t0 t1 f1 n1
  have N1 : ∀ w', Below wA.heap.size wA w' → w'.cell? ⟨b, 1, none⟩ = some (.string (str k)) := fun w' h => by rw [h.cell (p := ⟨b, 1, none⟩) hnA.lt]; exact n1
  have KF : ∀ w', Below wA.heap.size wA w' → Calls Tryz.prog 65 #[.pointer (some ⟨b, 0, none⟩)] w' fun e w'' => e = .returned (.bool false) ∧ w' = w'' := fun w' h => forks_leaf wd b k v w' (NodeAt.below h hnA)
  have s1 := str_toList k
  have s2 := str_toList key
  have ZT := kT.lt
  have ZF := hfA.lt
  have ZB := hnA.lt
  have T0 : ∀ w', Below wA.heap.size wA w' → w'.cell? ⟨w.heap.size, 0, none⟩ = some (.int .i64 wd) := fun w' h => by rw [h.cell (p := ⟨w.heap.size, 0, none⟩) kT.lt]; exact t0
  have T1 : ∀ w', Below wA.heap.size wA w' → w'.cell? ⟨w.heap.size, 1, none⟩ = some (.pointer q) := fun w' h => by rw [h.cell (p := ⟨w.heap.size, 1, none⟩) kT.lt]; exact t1
  have F1 : ∀ w', Below wA.heap.size wA w' → w'.cell? ⟨f, 1, none⟩ = some (.string (str key)) := fun w' h => by rw [h.cell (p := ⟨f, 1, none⟩) hfA.lt]; exact f1
  have bw : Below wA.heap.size wA wA := Below.refl _ _
  have HF := show Hid (NodeAt _ _ _ _) from hfA
  have HN := show Hid (NodeAt _ _ _ _) from hnA
  have BA := show Hid (Below _ _ _) from bA
  clear hn hf hfA hnA bA kT t0 t1 f1
  go_cut [10] (fun v wx => v = .bool false ∧ Below wA.heap.size wA wx)
  case first =>
    go_region_held3 (fun w' => Below wA.heap.size wA w') (repeat (first | exact bw.drew | exact hNext | assumption | refine Below.drew ?_ | exact bw))
      (first
      | (go_at_call 65
         refine (KF _ (by assumption)).mono ?_
         rintro e w3 ⟨rfl, rfl⟩))
    all_goals
      go_wp2
      go_meet
      case rel => exact ⟨by first | rfl | simp [*], by first | assumption | exact bw.drew⟩
  case rest =>
    obtain ⟨rfl, bx⟩ := hcut
    generalize wc = wx at *
    have KF3 := KF wx bx
    go_wp2_with fail
    refine KF3.mono ?_
    rintro e w' ⟨rfl, rfl⟩
    go_upto_region 6 with fail
    have KB : ∀ w', Below wA.heap.size wA w' → Calls Tryz.prog 67 #[.string (str key), .int .i64 place] w' fun e w'' => e = .returned (.int .i64 (bitP key place : Nat)) ∧ w' = w'' := fun w' h => bit_any key place w' hk hpl
    have K6 : ∀ w', Below wA.heap.size wA w' → Calls Tryz.prog 73 #[.int .i64 wd, .int .i64 place, .int .i64 (bitP key place : Nat), .pointer (some ⟨f, 0, none⟩), .pointer (some ⟨b, 0, none⟩)] w' fun e w'' => ∃ z, e = .returned (.pointer (some ⟨z, 0, none⟩)) ∧ NodeAt wd w'' z (mkFork place (bitP key place) (.leaf key value) (.leaf k v)) ∧ Below w'.heap.size w' w'' := fun w' h => forkOf_any wd place (bitP key place) f b (.leaf key value) (.leaf k v) w' hw hpl (bitP_01 _ _) (NodeAt.below h HF.out) (NodeAt.below h HN.out)
    clear KF KF3
    go_region_held3 (fun w' => Below wA.heap.size wA w') (repeat (first | exact bx.drew | exact hNext | assumption | refine Below.drew ?_ | exact bx))
      (first
      | (go_at_call 67
         refine (KB _ (by assumption)).mono ?_
         rintro e w3 ⟨rfl, rfl⟩)
      | (go_at_call 73
         refine (K6 _ (by assumption)).mono ?_
         rintro e w3 ⟨z, rfl, hz, b3⟩
         have hNext : Below wA.heap.size wA w3 := Below.trans (by assumption) (b3.mono (Below.size (by assumption)))))
    all_goals
      go_wp2
      go_ret
      exact ⟨z, rfl, by rw [HT.out]; exact hz, BA.out.trans (hNext.mono BA.out.size)⟩

set_option maxHeartbeats 3200000 in
theorem with_over (wd : Int) (q : Option Addr) (key value : Key) (place : Nat) (hw : okW wd) (hk : key.length ≤ maxLen) (hpl : place ≤ 100000000) (f : Nat) (b : Nat) (w : World) (p : Nat) (l r : Tr) (hge : ¬ p < place) (hn : NodeAt wd w b (.fork p l r)) (hf : NodeAt wd w f (.leaf key value)) :
    Calls Tryz.prog 48 #[.agg #[.int .i64 wd, .pointer q], .pointer (some ⟨b, 0, none⟩), .pointer (some ⟨f, 0, none⟩), .int .i64 place] w fun e w' => ∃ z, e = .returned (.pointer (some ⟨z, 0, none⟩)) ∧ NodeAt wd w' z ((Tr.fork p l r).with_ key value place) ∧ Below w.heap.size w w' := by
  have HT : Hid ((Tr.fork p l r).with_ key value place = mkFork place (bitP key place) (.leaf key value) (.fork p l r)) := by show _ = _; simp [Tr.with_, hge]
  have hgi : ¬ (p : Int) < (place : Int) := by omega
  have bA : Below w.heap.size w (w.alloc (.cells #[.int .i64 wd, .pointer q] 34)) := (Below.refl _ _).alloc (Nat.le_refl _) _
  have kT := Blk.new w #[.int .i64 wd, .pointer q] 34
  have hnA := NodeAt.below bA hn
  have hfA := NodeAt.below bA hf
  go_enter Tryz.func48, Tryz.ntmps48
  go_upto_region 1 with fail
  generalize w.alloc (.cells #[.int .i64 wd, .pointer q] 34) = wA at *
  have t0 := kT.cell 0
  have t1 := kT.cell 1
  have f1 := Blk.cell hfA 1
  have hnA2 := hnA
  obtain ⟨bl, br, kB, nl, nr⟩ := hnA2
  have n3 := kB.cell 3
  simp only [List.getElem?_toArray, List.getElem?_cons_succ, List.getElem?_cons_zero] at t0 t1 f1 n3
  have N3 : ∀ w', Below wA.heap.size wA w' → w'.cell? ⟨b, 3, none⟩ = some (.int .i64 p) := fun w' h => by rw [h.cell (p := ⟨b, 3, none⟩) kB.lt]; exact n3
  have KF : ∀ w', Below wA.heap.size wA w' → Calls Tryz.prog 65 #[.pointer (some ⟨b, 0, none⟩)] w' fun e w'' => e = .returned (.bool true) ∧ w' = w'' := fun w' h => forks_fork wd b p l r w' (NodeAt.below h hnA)
  have KK := show Hid (Blk _ _ _ _) from kB
  have NL := show Hid (NodeAt _ _ _ _) from nl
  have NR := show Hid (NodeAt _ _ _ _) from nr
  clear kB nl nr n3
  have ZT := kT.lt
  have ZF := hfA.lt
  have ZB := hnA.lt
  have T0 : ∀ w', Below wA.heap.size wA w' → w'.cell? ⟨w.heap.size, 0, none⟩ = some (.int .i64 wd) := fun w' h => by rw [h.cell (p := ⟨w.heap.size, 0, none⟩) kT.lt]; exact t0
  have T1 : ∀ w', Below wA.heap.size wA w' → w'.cell? ⟨w.heap.size, 1, none⟩ = some (.pointer q) := fun w' h => by rw [h.cell (p := ⟨w.heap.size, 1, none⟩) kT.lt]; exact t1
  have F1 : ∀ w', Below wA.heap.size wA w' → w'.cell? ⟨f, 1, none⟩ = some (.string (str key)) := fun w' h => by rw [h.cell (p := ⟨f, 1, none⟩) hfA.lt]; exact f1
  have bw : Below wA.heap.size wA wA := Below.refl _ _
  have HF := show Hid (NodeAt _ _ _ _) from hfA
  have HN := show Hid (NodeAt _ _ _ _) from hnA
  have BA := show Hid (Below _ _ _) from bA
  have KQ : ∀ n, Calls Tryz.prog 65 #[.pointer (some ⟨b, 0, none⟩)] (wA.drewN n) fun e w'' => e = .returned (.bool true) ∧ w'' = wA.drewN n := fun n => (KF _ (below_drewN bw n)).mono fun _ _ ⟨h, g⟩ => ⟨h, g.symm⟩
  clear hn hf hfA hnA bA kT t0 t1 f1
  go_cut [10] (fun v wx => v = .bool false ∧ Below wA.heap.size wA wx)
  case first =>
    go_quiet ((go_at_call 65; exact Calls.quiet_of_same (KQ _)))
    go_wp2
    go_meet
    case rel => exact ⟨rfl, below_drewN bw _⟩
  case rest =>
    obtain ⟨rfl, bx⟩ := hcut
    clear KQ
    generalize wc = wx at *
    have n3 := N3 wx bx
    have KF3 := KF wx bx
    go_wp2_with fail
    refine KF3.mono ?_
    rintro e w' ⟨rfl, rfl⟩
    go_upto_region 6 with fail
    have KB : ∀ w', Below wA.heap.size wA w' → Calls Tryz.prog 67 #[.string (str key), .int .i64 place] w' fun e w'' => e = .returned (.int .i64 (bitP key place : Nat)) ∧ w' = w'' := fun w' h => bit_any key place w' hk hpl
    have K6 : ∀ w', Below wA.heap.size wA w' → Calls Tryz.prog 73 #[.int .i64 wd, .int .i64 place, .int .i64 (bitP key place : Nat), .pointer (some ⟨f, 0, none⟩), .pointer (some ⟨b, 0, none⟩)] w' fun e w'' => ∃ z, e = .returned (.pointer (some ⟨z, 0, none⟩)) ∧ NodeAt wd w'' z (mkFork place (bitP key place) (.leaf key value) (.fork p l r)) ∧ Below w'.heap.size w' w'' := fun w' h => forkOf_any wd place (bitP key place) f b (.leaf key value) (.fork p l r) w' hw hpl (bitP_01 _ _) (NodeAt.below h HF.out) (NodeAt.below h HN.out)
    clear KF KF3
    go_region_held3 (fun w' => Below wA.heap.size wA w') (repeat (first | exact bx.drew | exact hNext | assumption | refine Below.drew ?_ | exact bx))
      (first
      | (go_at_call 67
         refine (KB _ (by assumption)).mono ?_
         rintro e w3 ⟨rfl, rfl⟩)
      | (go_at_call 73
         refine (K6 _ (by assumption)).mono ?_
         rintro e w3 ⟨z, rfl, hz, b3⟩
         have hNext : Below wA.heap.size wA w3 := Below.trans (by assumption) (b3.mono (Below.size (by assumption)))))
    all_goals
      go_wp2
      go_ret
      exact ⟨z, rfl, by rw [HT.out]; exact hz, BA.out.trans (hNext.mono BA.out.size)⟩

set_option maxHeartbeats 6400000 in
theorem with_0 (wd : Int) (q : Option Addr) (key value : Key) (place : Nat) (hw : okW wd) (hk : key.length ≤ maxLen) (hpl : place ≤ 100000000) (f : Nat) (b : Nat) (w : World) (p : Nat) (l r : Tr) (hp1 : p ≤ 100000000) (hlt : p < place) (hb : bitP key p = 0) (hn : NodeAt wd w b (.fork p l r)) (hf : NodeAt wd w f (.leaf key value))
    (ih : ∀ (c : Nat) (w : World), NodeAt wd w c l → NodeAt wd w f (.leaf key value) → Calls Tryz.prog 48 #[.agg #[.int .i64 wd, .pointer q], .pointer (some ⟨c, 0, none⟩), .pointer (some ⟨f, 0, none⟩), .int .i64 place] w fun e w' => ∃ z, e = .returned (.pointer (some ⟨z, 0, none⟩)) ∧ NodeAt wd w' z (l.with_ key value place) ∧ Below w.heap.size w w') :
    Calls Tryz.prog 48 #[.agg #[.int .i64 wd, .pointer q], .pointer (some ⟨b, 0, none⟩), .pointer (some ⟨f, 0, none⟩), .int .i64 place] w fun e w' => ∃ z, e = .returned (.pointer (some ⟨z, 0, none⟩)) ∧ NodeAt wd w' z ((Tr.fork p l r).with_ key value place) ∧ Below w.heap.size w w' := by
  have HT : Hid ((Tr.fork p l r).with_ key value place = mkFork p 0 (l.with_ key value place) r) := by show _ = _; simp [Tr.with_, hlt, hb, mkFork]
  have hli : (p : Int) < (place : Int) := by omega
  have bA : Below w.heap.size w (w.alloc (.cells #[.int .i64 wd, .pointer q] 34)) := (Below.refl _ _).alloc (Nat.le_refl _) _
  have kT := Blk.new w #[.int .i64 wd, .pointer q] 34
  have hnA := NodeAt.below bA hn
  have hfA := NodeAt.below bA hf
  go_enter Tryz.func48, Tryz.ntmps48
  go_upto_region 1 with fail
  generalize w.alloc (.cells #[.int .i64 wd, .pointer q] 34) = wA at *
  have t0 := kT.cell 0
  have t1 := kT.cell 1
  have f1 := Blk.cell hfA 1
  have hnA2 := hnA
  obtain ⟨bl, br, kB, nl, nr⟩ := hnA2
  have n3 := kB.cell 3
  simp only [List.getElem?_toArray, List.getElem?_cons_succ, List.getElem?_cons_zero] at t0 t1 f1 n3
  have N3 : ∀ w', Below wA.heap.size wA w' → w'.cell? ⟨b, 3, none⟩ = some (.int .i64 p) := fun w' h => by rw [h.cell (p := ⟨b, 3, none⟩) kB.lt]; exact n3
  have KF : ∀ w', Below wA.heap.size wA w' → Calls Tryz.prog 65 #[.pointer (some ⟨b, 0, none⟩)] w' fun e w'' => e = .returned (.bool true) ∧ w' = w'' := fun w' h => forks_fork wd b p l r w' (NodeAt.below h hnA)
  have KK := show Hid (Blk _ _ _ _) from kB
  have NL := show Hid (NodeAt _ _ _ _) from nl
  have NR := show Hid (NodeAt _ _ _ _) from nr
  clear kB nl nr n3
  have ZT := kT.lt
  have ZF := hfA.lt
  have ZB := hnA.lt
  have T0 : ∀ w', Below wA.heap.size wA w' → w'.cell? ⟨w.heap.size, 0, none⟩ = some (.int .i64 wd) := fun w' h => by rw [h.cell (p := ⟨w.heap.size, 0, none⟩) kT.lt]; exact t0
  have T1 : ∀ w', Below wA.heap.size wA w' → w'.cell? ⟨w.heap.size, 1, none⟩ = some (.pointer q) := fun w' h => by rw [h.cell (p := ⟨w.heap.size, 1, none⟩) kT.lt]; exact t1
  have F1 : ∀ w', Below wA.heap.size wA w' → w'.cell? ⟨f, 1, none⟩ = some (.string (str key)) := fun w' h => by rw [h.cell (p := ⟨f, 1, none⟩) hfA.lt]; exact f1
  have bw : Below wA.heap.size wA wA := Below.refl _ _
  have HF := show Hid (NodeAt _ _ _ _) from hfA
  have HN := show Hid (NodeAt _ _ _ _) from hnA
  have BA := show Hid (Below _ _ _) from bA
  have KQ : ∀ n, Calls Tryz.prog 65 #[.pointer (some ⟨b, 0, none⟩)] (wA.drewN n) fun e w'' => e = .returned (.bool true) ∧ w'' = wA.drewN n := fun n => (KF _ (below_drewN bw n)).mono fun _ _ ⟨h, g⟩ => ⟨h, g.symm⟩
  clear hn hf hfA hnA bA kT t0 t1 f1
  go_cut [10] (fun v wx => v = .bool false ∧ Below wA.heap.size wA wx)
  case first =>
    go_quiet ((go_at_call 65; exact Calls.quiet_of_same (KQ _)))
    go_wp2
    go_meet
    case rel => exact ⟨rfl, below_drewN bw _⟩
  case rest =>
    obtain ⟨rfl, bx⟩ := hcut
    clear KQ
    generalize wc = wx at *
    have n3 := N3 wx bx
    have KF3 := KF wx bx
    go_wp2_with fail
    refine KF3.mono ?_
    rintro e w' ⟨rfl, rfl⟩
    go_upto_region 4 with fail
    have KB : ∀ w', Below wA.heap.size wA w' → Calls Tryz.prog 67 #[.string (str key), .int .i64 p] w' fun e w'' => e = .returned (.int .i64 0) ∧ w' = w'' := fun w' h => bit_0 key p w' hk hp1 hb
    have HB := show Hid (_ = _) from hb
    clear KF KF3 n3 hb
    go_cut [9] (fun v wx => v = .int .i64 0 ∧ Below wA.heap.size wA wx)
    case first =>
      go_region_held3 (fun w' => Below wA.heap.size wA w') (repeat (first | exact bx.drew | exact hNext | assumption | refine Below.drew ?_ | exact bx))
        (first
        | (go_at_call 67
           refine (KB _ (by assumption)).mono ?_
           rintro e w3 ⟨rfl, rfl⟩))
      all_goals
        go_wp2
        go_meet
        case rel => exact ⟨rfl, by first | assumption | exact bx.drew⟩
    case rest =>
      obtain ⟨rfl, by_⟩ := hcut
      generalize wc = wy at *
      have KS : ∀ w', Below wA.heap.size wA w' → Calls Tryz.prog 66 #[.pointer (some ⟨b, 0, none⟩), .int .i64 0] w' fun e w'' => e = .returned (.pointer (some ⟨bl, 0, none⟩)) ∧ w' = w'' := fun w' h => side_0 b bl br _ _ _ _ w' (KK.out.below h ZB)
      have ew : IntKind.i64.wrap (1 - 0) = 1 := by decide
      have KO : ∀ w', Below wA.heap.size wA w' → Calls Tryz.prog 66 #[.pointer (some ⟨b, 0, none⟩), .int .i64 (IntKind.i64.wrap (1 - 0))] w' fun e w'' => e = .returned (.pointer (some ⟨br, 0, none⟩)) ∧ w' = w'' := fun w' h => by rw [ew]; exact side_1 b bl br _ _ _ _ w' (KK.out.below h ZB)
      have KW : ∀ w', Below wA.heap.size wA w' → Calls Tryz.prog 48 #[.agg #[.int .i64 wd, .pointer q], .pointer (some ⟨bl, 0, none⟩), .pointer (some ⟨f, 0, none⟩), .int .i64 place] w' fun e w'' => ∃ z, e = .returned (.pointer (some ⟨z, 0, none⟩)) ∧ NodeAt wd w'' z (l.with_ key value place) ∧ Below w'.heap.size w' w'' := fun w' h => ih bl w' (NodeAt.below h NL.out) (NodeAt.below h HF.out)
      have KO2 := fun (c : Nat) (w' : World) (h : Below wA.heap.size wA w') (hc : NodeAt wd w' c (l.with_ key value place)) => forkOf_any wd p 0 c br (l.with_ key value place) r w' hw hp1 (by omega) hc (NodeAt.below h NR.out)
      clear KB ew ih bx
      go_upto_region 5 with fail
      go_region_held3 (fun w' => Below wA.heap.size wA w') (repeat (first | exact by_.drew | exact hNext | assumption | refine Below.drew ?_ | exact by_))
        (first
        | (go_at_call 66
           with_reducible refine (KS _ (by assumption)).mono ?_
           rintro e w3 ⟨rfl, rfl⟩)
        | (go_at_call 66
           refine (KO _ (by assumption)).mono ?_
           rintro e w3 ⟨rfl, rfl⟩)
        | (go_at_call 48
           with_reducible refine (KW _ (by assumption)).mono ?_
           rintro e w3 ⟨c, rfl, hc, b3⟩
           have hNext : Below wA.heap.size wA w3 := Below.trans (by assumption) (b3.mono (Below.size (by assumption))))
        | (go_at_call 73
           refine (KO2 _ _ hNext hc).mono ?_
           rintro e w3 ⟨z, rfl, hz, b3⟩
           have hNext2 : Below wA.heap.size wA w3 := hNext.trans (b3.mono hNext.size)))
      all_goals
        go_wp2
        go_ret
        exact ⟨z, rfl, by rw [HT.out]; exact hz, BA.out.trans (hNext2.mono BA.out.size)⟩

set_option maxHeartbeats 6400000 in
theorem with_1 (wd : Int) (q : Option Addr) (key value : Key) (place : Nat) (hw : okW wd) (hk : key.length ≤ maxLen) (hpl : place ≤ 100000000) (f : Nat) (b : Nat) (w : World) (p : Nat) (l r : Tr) (hp1 : p ≤ 100000000) (hlt : p < place) (hb : bitP key p = 1) (hn : NodeAt wd w b (.fork p l r)) (hf : NodeAt wd w f (.leaf key value))
    (ih : ∀ (c : Nat) (w : World), NodeAt wd w c r → NodeAt wd w f (.leaf key value) → Calls Tryz.prog 48 #[.agg #[.int .i64 wd, .pointer q], .pointer (some ⟨c, 0, none⟩), .pointer (some ⟨f, 0, none⟩), .int .i64 place] w fun e w' => ∃ z, e = .returned (.pointer (some ⟨z, 0, none⟩)) ∧ NodeAt wd w' z (r.with_ key value place) ∧ Below w.heap.size w w') :
    Calls Tryz.prog 48 #[.agg #[.int .i64 wd, .pointer q], .pointer (some ⟨b, 0, none⟩), .pointer (some ⟨f, 0, none⟩), .int .i64 place] w fun e w' => ∃ z, e = .returned (.pointer (some ⟨z, 0, none⟩)) ∧ NodeAt wd w' z ((Tr.fork p l r).with_ key value place) ∧ Below w.heap.size w w' := by
  have HT : Hid ((Tr.fork p l r).with_ key value place = mkFork p 1 (r.with_ key value place) l) := by show _ = _; simp [Tr.with_, hlt, hb, mkFork]
  have hli : (p : Int) < (place : Int) := by omega
  have bA : Below w.heap.size w (w.alloc (.cells #[.int .i64 wd, .pointer q] 34)) := (Below.refl _ _).alloc (Nat.le_refl _) _
  have kT := Blk.new w #[.int .i64 wd, .pointer q] 34
  have hnA := NodeAt.below bA hn
  have hfA := NodeAt.below bA hf
  go_enter Tryz.func48, Tryz.ntmps48
  go_upto_region 1 with fail
  generalize w.alloc (.cells #[.int .i64 wd, .pointer q] 34) = wA at *
  have t0 := kT.cell 0
  have t1 := kT.cell 1
  have f1 := Blk.cell hfA 1
  have hnA2 := hnA
  obtain ⟨bl, br, kB, nl, nr⟩ := hnA2
  have n3 := kB.cell 3
  simp only [List.getElem?_toArray, List.getElem?_cons_succ, List.getElem?_cons_zero] at t0 t1 f1 n3
  have N3 : ∀ w', Below wA.heap.size wA w' → w'.cell? ⟨b, 3, none⟩ = some (.int .i64 p) := fun w' h => by rw [h.cell (p := ⟨b, 3, none⟩) kB.lt]; exact n3
  have KF : ∀ w', Below wA.heap.size wA w' → Calls Tryz.prog 65 #[.pointer (some ⟨b, 0, none⟩)] w' fun e w'' => e = .returned (.bool true) ∧ w' = w'' := fun w' h => forks_fork wd b p l r w' (NodeAt.below h hnA)
  have KK := show Hid (Blk _ _ _ _) from kB
  have NL := show Hid (NodeAt _ _ _ _) from nl
  have NR := show Hid (NodeAt _ _ _ _) from nr
  clear kB nl nr n3
  have ZT := kT.lt
  have ZF := hfA.lt
  have ZB := hnA.lt
  have T0 : ∀ w', Below wA.heap.size wA w' → w'.cell? ⟨w.heap.size, 0, none⟩ = some (.int .i64 wd) := fun w' h => by rw [h.cell (p := ⟨w.heap.size, 0, none⟩) kT.lt]; exact t0
  have T1 : ∀ w', Below wA.heap.size wA w' → w'.cell? ⟨w.heap.size, 1, none⟩ = some (.pointer q) := fun w' h => by rw [h.cell (p := ⟨w.heap.size, 1, none⟩) kT.lt]; exact t1
  have F1 : ∀ w', Below wA.heap.size wA w' → w'.cell? ⟨f, 1, none⟩ = some (.string (str key)) := fun w' h => by rw [h.cell (p := ⟨f, 1, none⟩) hfA.lt]; exact f1
  have bw : Below wA.heap.size wA wA := Below.refl _ _
  have HF := show Hid (NodeAt _ _ _ _) from hfA
  have HN := show Hid (NodeAt _ _ _ _) from hnA
  have BA := show Hid (Below _ _ _) from bA
  have KQ : ∀ n, Calls Tryz.prog 65 #[.pointer (some ⟨b, 0, none⟩)] (wA.drewN n) fun e w'' => e = .returned (.bool true) ∧ w'' = wA.drewN n := fun n => (KF _ (below_drewN bw n)).mono fun _ _ ⟨h, g⟩ => ⟨h, g.symm⟩
  clear hn hf hfA hnA bA kT t0 t1 f1
  go_cut [10] (fun v wx => v = .bool false ∧ Below wA.heap.size wA wx)
  case first =>
    go_quiet ((go_at_call 65; exact Calls.quiet_of_same (KQ _)))
    go_wp2
    go_meet
    case rel => exact ⟨rfl, below_drewN bw _⟩
  case rest =>
    obtain ⟨rfl, bx⟩ := hcut
    clear KQ
    generalize wc = wx at *
    have n3 := N3 wx bx
    have KF3 := KF wx bx
    go_wp2_with fail
    refine KF3.mono ?_
    rintro e w' ⟨rfl, rfl⟩
    go_upto_region 4 with fail
    have KB : ∀ w', Below wA.heap.size wA w' → Calls Tryz.prog 67 #[.string (str key), .int .i64 p] w' fun e w'' => e = .returned (.int .i64 1) ∧ w' = w'' := fun w' h => bit_1 key p w' hk hp1 hb
    have HB := show Hid (_ = _) from hb
    clear KF KF3 n3 hb
    go_cut [9] (fun v wx => v = .int .i64 1 ∧ Below wA.heap.size wA wx)
    case first =>
      go_region_held3 (fun w' => Below wA.heap.size wA w') (repeat (first | exact bx.drew | exact hNext | assumption | refine Below.drew ?_ | exact bx))
        (first
        | (go_at_call 67
           refine (KB _ (by assumption)).mono ?_
           rintro e w3 ⟨rfl, rfl⟩))
      all_goals
        go_wp2
        go_meet
        case rel => exact ⟨rfl, by first | assumption | exact bx.drew⟩
    case rest =>
      obtain ⟨rfl, by_⟩ := hcut
      generalize wc = wy at *
      have KS : ∀ w', Below wA.heap.size wA w' → Calls Tryz.prog 66 #[.pointer (some ⟨b, 0, none⟩), .int .i64 1] w' fun e w'' => e = .returned (.pointer (some ⟨br, 0, none⟩)) ∧ w' = w'' := fun w' h => side_1 b bl br _ _ _ _ w' (KK.out.below h ZB)
      have ew : IntKind.i64.wrap (1 - 1) = 0 := by decide
      have KO : ∀ w', Below wA.heap.size wA w' → Calls Tryz.prog 66 #[.pointer (some ⟨b, 0, none⟩), .int .i64 (IntKind.i64.wrap (1 - 1))] w' fun e w'' => e = .returned (.pointer (some ⟨bl, 0, none⟩)) ∧ w' = w'' := fun w' h => by rw [ew]; exact side_0 b bl br _ _ _ _ w' (KK.out.below h ZB)
      have KW : ∀ w', Below wA.heap.size wA w' → Calls Tryz.prog 48 #[.agg #[.int .i64 wd, .pointer q], .pointer (some ⟨br, 0, none⟩), .pointer (some ⟨f, 0, none⟩), .int .i64 place] w' fun e w'' => ∃ z, e = .returned (.pointer (some ⟨z, 0, none⟩)) ∧ NodeAt wd w'' z (r.with_ key value place) ∧ Below w'.heap.size w' w'' := fun w' h => ih br w' (NodeAt.below h NR.out) (NodeAt.below h HF.out)
      have KO2 := fun (c : Nat) (w' : World) (h : Below wA.heap.size wA w') (hc : NodeAt wd w' c (r.with_ key value place)) => forkOf_any wd p 1 c bl (r.with_ key value place) l w' hw hp1 (by omega) hc (NodeAt.below h NL.out)
      clear KB ew ih bx
      go_upto_region 5 with fail
      go_region_held3 (fun w' => Below wA.heap.size wA w') (repeat (first | exact by_.drew | exact hNext | assumption | refine Below.drew ?_ | exact by_))
        (first
        | (go_at_call 66
           with_reducible refine (KS _ (by assumption)).mono ?_
           rintro e w3 ⟨rfl, rfl⟩)
        | (go_at_call 66
           refine (KO _ (by assumption)).mono ?_
           rintro e w3 ⟨rfl, rfl⟩)
        | (go_at_call 48
           with_reducible refine (KW _ (by assumption)).mono ?_
           rintro e w3 ⟨c, rfl, hc, b3⟩
           have hNext : Below wA.heap.size wA w3 := Below.trans (by assumption) (b3.mono (Below.size (by assumption))))
        | (go_at_call 73
           refine (KO2 _ _ hNext hc).mono ?_
           rintro e w3 ⟨z, rfl, hz, b3⟩
           have hNext2 : Below wA.heap.size wA w3 := hNext.trans (b3.mono hNext.size)))
      all_goals
        go_wp2
        go_ret
        exact ⟨z, rfl, by rw [HT.out]; exact hz, BA.out.trans (hNext2.mono BA.out.size)⟩

theorem with_any (wd : Int) (q : Option Addr) (key value : Key) (place : Nat) (hw : okW wd) (hk : key.length ≤ maxLen) (hpl : place ≤ 100000000) (f : Nat) (t : Tr) : ∀ (b : Nat) (w : World), t.placed → NodeAt wd w b t → NodeAt wd w f (.leaf key value) →
    Calls Tryz.prog 48 #[.agg #[.int .i64 wd, .pointer q], .pointer (some ⟨b, 0, none⟩), .pointer (some ⟨f, 0, none⟩), .int .i64 place] w fun e w' => ∃ z, e = .returned (.pointer (some ⟨z, 0, none⟩)) ∧ NodeAt wd w' z (t.with_ key value place) ∧ Below w.heap.size w w' := by
  induction t with
  | leaf k v =>
    intro b w _ hn hf
    by_cases hne : k = key
    · subst hne; exact with_same wd q k value place hw hk hpl f b w v hn hf
    · exact with_leaf wd q key value place hw hk hpl f b w k v hne hn hf
  | fork p l r ihl ihr =>
    intro b w hp hn hf
    by_cases hlt : p < place
    · rcases bitP_01 key p with hb | hb
      · exact with_0 wd q key value place hw hk hpl f b w p l r hp.1 hlt hb hn hf fun c w h g => ihl c w hp.2.1 h g
      · exact with_1 wd q key value place hw hk hpl f b w p l r hp.1 hlt hb hn hf fun c w h g => ihr c w hp.2.2 h g
    · exact with_over wd q key value place hw hk hpl f b w p l r hlt hn hf
end Go.Proofs.YtmhllihedejehaaGreat
