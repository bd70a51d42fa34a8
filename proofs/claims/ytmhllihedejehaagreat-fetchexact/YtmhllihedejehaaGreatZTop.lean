/- The answer's digest of a part of a tree. -/
import Derived.Test.YtmhllihedejehaaGreatM37
namespace Go.Proofs.YtmhllihedejehaaGreat
open Go.RowKit
set_option linter.unusedVariables false
set_option linter.unusedSimpArgs false

def Tr.tag : Tr → Int
  | .leaf _ _ => 3
  | .fork _ _ _ => 4
def Tr.parts (wd : Int) : Tr → List ByteArray
  | .leaf k v => [str k, str v]
  | .fork p l r => forkParts p (l.dig wd) (r.dig wd)
theorem Tr.dig_parts (wd : Int) (t : Tr) : t.dig wd = ofP wd t.tag (t.parts wd) := by
  cases t <;> rfl
theorem Tr.parts_len (wd : Int) (t : Tr) : (t.parts wd).length ≤ maxLen := by
  cases t <;> simp [Tr.parts, forkParts, maxLen]

set_option maxHeartbeats 800000 in
theorem topI_leaf (wd : Int) (k v : Key) (la : Option Addr) (cap : Nat) (w : World) (hk : k.length ≤ 32) (hv : v.length ≤ 4096) (hi : ItemsAt w la [(k, v)]) :
    Calls Tryz.prog 53 #[.int .i64 wd, .slice la 1 cap] w fun e w' => ∃ u, e = .returned u ∧ Img w' 3 [str k, str v] u ∧ Below w.heap.size w w' := by
  rcases hi with h0 | ⟨b, off, rfl, hlt, hc⟩
  · simp at h0
  obtain ⟨c0, c1⟩ := hc 0 (k, v) rfl
  simp only [Nat.zero_mul, Nat.add_zero] at c0 c1
  clear hc
  have kR := Blk.new w #[.int .i64 0, .slice none 0 0] 76
  have bA : Below w.heap.size w (w.alloc (.cells #[.int .i64 0, .slice none 0 0] 76)) := (Below.refl _ _).alloc (Nat.le_refl _) _
  go_enter Tryz.func53, Tryz.ntmps53
  go_wp2_with fail
  go_region
  go_wp2
  have hS := (strs_two (w.alloc (.cells #[.int .i64 3, .slice (some ⟨w.heap.size + 1, 0, none⟩) 2 2] 76)) (str k) (str v) (by rw [str_size]; unfold maxLen; omega) (by rw [str_size]; unfold maxLen; omega)).below ((Below.refl _ _).drew)
  rw [World.size_alloc] at hS
  exact bodyPost_ret (v := .agg #[.int .i64 3, .slice (some ⟨w.heap.size + 1, 0, none⟩) 2 2]) (by simp [results, Tryz.results53, go_sem]) rfl ⟨_, rfl, ⟨_, 2, rfl, hS⟩, (((Below.refl _ _).alloc (Nat.le_refl _) _).alloc (by simp) _).drew⟩

/-- The answer's digest of a part, said of a tree. -/
def TopD (wd : Int) (t : Tr) : Prop := ∀ (la : Option Addr) (cap : Nat) (w : World), t.items.length ≤ cap → ItemsAt w la t.items → Calls Tryz.prog 27 #[.int .i64 wd, .slice la t.items.length cap] w fun e w' => e = .returned (.int .u64 (t.dig wd)) ∧ Below w.heap.size w w'
/-- It is what the answer's functions bear. -/
structure Tr.Fine (t : Tr) : Prop where
  wf : t.wf
  pl : t.placed
  keys : ∀ x ∈ t.items, x.1.length ≤ 32 ∧ x.2.length ≤ 4096
  len : t.items.length ≤ 100000
theorem Tr.Fine.left {p : Nat} {l r : Tr} (h : (Tr.fork p l r).Fine) : l.Fine := ⟨h.wf.1, h.pl.2.1, fun x hx => h.keys x (by simp [Tr.items, hx]), by have := h.len; simp only [Tr.items, List.length_append] at this; omega⟩
theorem Tr.Fine.right {p : Nat} {l r : Tr} (h : (Tr.fork p l r).Fine) : r.Fine := ⟨h.wf.2.1, h.pl.2.2, fun x hx => h.keys x (by simp [Tr.items, hx]), by have := h.len; simp only [Tr.items, List.length_append] at this; omega⟩
theorem rfork_fine {p : Nat} {l r : Tr} (h : (Tr.fork p l r).Fine) (la : Option Addr) (cap : Nat) (w : World) (hi : ItemsAt w la (Tr.fork p l r).items) :
    Calls Tryz.prog 29 #[.slice la (Tr.fork p l r).items.length cap] w fun e w' => e = .returned (.tuple #[.int .i64 p, .int .i64 l.items.length]) ∧ w = w' :=
  rfork_tr p l r la cap w h.wf h.pl.1 (fun x hx => (h.keys x hx).1) h.len hi

set_option maxHeartbeats 1600000 in
theorem topI_fork (wd : Int) (p : Nat) (l r : Tr) (h : (Tr.fork p l r).Fine) (hl : TopD wd l) (hr : TopD wd r) (la : Option Addr) (cap : Nat) (w : World) (hc : (Tr.fork p l r).items.length ≤ cap) (hi : ItemsAt w la (Tr.fork p l r).items) :
    Calls Tryz.prog 53 #[.int .i64 wd, .slice la (Tr.fork p l r).items.length cap] w fun e w' => ∃ u, e = .returned u ∧ Img w' 4 (forkParts p (l.dig wd) (r.dig wd)) u ∧ Below w.heap.size w w' := by
  have hF := fun w' hb => rfork_fine h la cap w' (hi.below hb)
  have hle : (Tr.fork p l r).items.length = l.items.length + r.items.length := by simp [Tr.items]
  have hlp := l.items_pos
  have hrp := r.items_pos
  have hp : p ≤ 100000000 := h.pl.1
  have hl1 := fun w' hb => hl la cap w' (by omega) (ItemsAt.left (hi.below hb))
  obtain ⟨b, off, ela⟩ : ∃ b off, la = some ⟨b, off, none⟩ := by
    rcases hi with h0 | ⟨b, off, e, _⟩
    · rw [h0] at hle; simp at hle; omega
    · exact ⟨b, off, e⟩
  subst ela
  have hr1 := fun w' hb => hr (some ⟨b, off + l.items.length * 2, none⟩) (cap - l.items.length) w' (by omega) (ItemsAt.right (hi.below hb))
  have hD1 := l.dig_bd wd
  have hD2 := r.dig_bd wd
  have hR5 := fun w' => rfive (p : Int) w' (by omega)
  have hR8 := fun w' => reight (l.dig wd) w' hD1
  have hR9 := fun w' => reight (r.dig wd) w' hD2
  have bA : Below w.heap.size w (w.alloc (.cells #[.int .i64 0, .slice none 0 0] 76)) := (Below.refl _ _).alloc (Nat.le_refl _) _
  have kR := Blk.new w #[.int .i64 0, .slice none 0 0] 76
  rw [hle] at hF hc ⊢
  clear hi hle h hl hr
  generalize l.items.length = nl at *
  generalize r.items.length = nr at *
  generalize l.dig wd = d1 at *
  generalize r.dig wd = d2 at *
  have x1 : ((nl + nr : Nat) : Int) ≠ 1 := by omega
  have x1b : (((nl + nr : Nat) : Int) == 1) = false := by simp; omega
  have x2 : (nl : Int) ≤ (cap : Int) := by omega
  have x3 : (nl : Int) ≤ ((nl + nr : Nat) : Int) := by omega
  have x4 : nl + nr - nl = nr := by omega
  go_enter Tryz.func53, Tryz.ntmps53
  go_wp2_with fail
  refine (hF _ bA).mono ?_
  rintro e w1 ⟨rfl, rfl⟩
  generalize w.alloc (.cells #[.int .i64 0, .slice none 0 0] 76) = w1 at *
  go_wp2_with fail
  refine (hl1 _ bA).mono ?_
  rintro e w2 ⟨rfl, b2⟩
  have B2 := bA.trans (b2.mono bA.size)
  have k2 := kR.below b2 kR.lt
  clear b2 bA kR hF hl1
  go_wp2_with fail
  refine (hr1 _ B2).mono ?_
  rintro e w3 ⟨rfl, b3⟩
  have B3 := B2.trans (b3.mono B2.size)
  have k3 := k2.below b3 k2.lt
  clear b3 B2 k2 hr1
  go_wp2_with fail
  refine (hR5 _).mono ?_
  rintro e w4 ⟨rfl, b4⟩
  have B4 := B3.trans (b4.mono B3.size)
  have k4 := k3.below b4 k3.lt
  clear b4 B3 k3 hR5
  go_wp2_with fail
  refine (hR8 _).mono ?_
  rintro e w5 ⟨rfl, b5⟩
  have B5 := B4.trans (b5.mono B4.size)
  have k5 := k4.below b5 k4.lt
  clear b5 B4 k4 hR8
  go_wp2_with fail
  refine (hR9 _).mono ?_
  rintro e w6 ⟨rfl, b6⟩
  have B6 := B5.trans (b6.mono B5.size)
  have k6 := k5.below b6 k5.lt
  clear b6 B5 k5 hR9
  have c0 := (k6.cell 0).trans rfl
  have c1 := (k6.cell 1).trans rfl
  have f0 := k6.frozen 0
  have f1 := k6.frozen 1
  have kz := k6.lt
  go_wp2
  have hS := strs_three ((w6.setCell ⟨w.heap.size, 0, none⟩ (.int .i64 4)).setCell ⟨w.heap.size, 1, none⟩ (.slice (some ⟨w6.heap.size, 0, none⟩) 3 3)) (str (be p 5)) (str (be d1 8)) (str (be d2 8)) (be5_size p) (be8_size d1) (be8_size d2)
  rw [size_setCell, size_setCell] at hS
  exact bodyPost_ret (v := .agg #[.int .i64 4, .slice (some ⟨w6.heap.size, 0, none⟩) 3 3]) (by simp [results, Tryz.results53, go_sem, c0, c1, kz]) rfl
    ⟨_, rfl, ⟨_, 3, rfl, hS⟩, ((B6.setCell (Nat.le_refl _) _).setCell (Nat.le_refl _) _).alloc (by rw [size_setCell, size_setCell]; exact B6.size) _⟩

set_option maxHeartbeats 800000 in
theorem topD_of (wd : Int) (t : Tr) (la : Option Addr) (n cap : Nat) (w : World) (hw : okW wd) (hI : Calls Tryz.prog 53 #[.int .i64 wd, .slice la n cap] w fun e w' => ∃ u, e = .returned u ∧ Img w' t.tag (t.parts wd) u ∧ Below w.heap.size w w') :
    Calls Tryz.prog 27 #[.int .i64 wd, .slice la n cap] w fun e w' => e = .returned (.int .u64 (t.dig wd)) ∧ Below w.heap.size w w' := by
  have hlen := t.parts_len wd
  rw [t.dig_parts wd]
  generalize t.tag = tg at *
  generalize t.parts wd = ps at *
  go_enter Tryz.func27, Tryz.ntmps27
  go_wp2_with fail
  refine hI.mono ?_
  rintro e w1 ⟨u, rfl, ⟨a, c, rfl, hs⟩, b1⟩
  clear hI
  have bA : Below w1.heap.size w1 (w1.alloc (.cells #[.int .i64 tg, .slice a ps.length c] 76)) := (Below.refl _ _).alloc (Nat.le_refl _) _
  go_wp2_with fail
  refine (imgDig_any wd tg ps _ _ hw hlen ⟨a, c, rfl, hs.below bA⟩).mono ?_
  rintro e w2 ⟨rfl, b2⟩
  have B1 := b1.trans (bA.mono b1.size)
  have B2 := B1.trans (b2.mono B1.size)
  clear b1 b2 bA hs B1
  go_wp2
  go_ret
  exact ⟨rfl, B2⟩
theorem topD_any (wd : Int) (hw : okW wd) (t : Tr) : t.Fine → TopD wd t := by
  induction t with
  | leaf k v =>
    intro h la cap w hc hi
    have hk := h.keys (k, v) (by simp [Tr.items])
    exact topD_of wd (.leaf k v) la 1 cap w hw (topI_leaf wd k v la cap w hk.1 hk.2 hi)
  | fork p l r ihl ihr =>
    intro h la cap w hc hi
    exact topD_of wd (.fork p l r) la _ cap w hw (topI_fork wd p l r h (ihl h.left) (ihr h.right) la cap w hc hi)
def FineO (o : Option Tr) : Prop := ∀ t, o = some t → t.Fine

set_option maxHeartbeats 800000 in
theorem rroot_none (wd : Int) (la : Option Addr) (cap : Nat) (w : World) (hw : okW wd) :
    Calls Tryz.prog 8 #[.agg #[.int .i64 wd, .slice la 0 cap]] w fun e w' => e = .returned (.int .u64 (rootP wd none)) ∧ Below w.heap.size w w' := by
  have kT := Blk.new w #[.int .i64 wd, .slice la 0 cap] 36
  have bT : Below w.heap.size w (w.alloc (.cells #[.int .i64 wd, .slice la 0 cap] 36)) := (Below.refl _ _).alloc (Nat.le_refl _) _
  go_enter Tryz.func8, Tryz.ntmps8
  go_wp2_with fail
  generalize w.alloc (.cells #[.int .i64 wd, .slice la 0 cap] 36) = w1 at *
  refine (whole_none 0 w1).mono ?_
  rintro e w2 ⟨u, rfl, ⟨a, c, rfl, hs⟩, b2⟩
  have B2 := bT.trans (b2.mono bT.size)
  have k2 := (kT.below b2 kT.lt)
  have bA : Below w2.heap.size w2 (w2.alloc (.cells #[.int .i64 5, .slice a 0 c] 76)) := (Below.refl _ _).alloc (Nat.le_refl _) _
  have k3 := k2.below bA k2.lt
  have c0 := (k3.cell 0).trans rfl
  have z3 := k3.lt
  clear b2 bT kT k2
  go_wp2_with fail
  refine (imgDig_any wd 5 [] _ _ hw (Nat.zero_le _) ⟨a, c, rfl, hs.below bA⟩).mono ?_
  rintro e w3 ⟨rfl, b3⟩
  have B3 := B2.trans (bA.mono B2.size)
  have B4 := B3.trans (b3.mono B3.size)
  clear b3 bA hs B2 B3
  go_wp2
  go_ret
  exact ⟨rfl, B4⟩

set_option maxHeartbeats 800000 in
theorem rroot_some (wd : Int) (t : Tr) (la : Option Addr) (cap : Nat) (w : World) (hw : okW wd) (h : t.Fine) (hc : t.items.length ≤ cap) (hi : ItemsAt w la t.items) :
    Calls Tryz.prog 8 #[.agg #[.int .i64 wd, .slice la t.items.length cap]] w fun e w' => e = .returned (.int .u64 (rootP wd (some t))) ∧ Below w.heap.size w w' := by
  have kT := Blk.new w #[.int .i64 wd, .slice la t.items.length cap] 36
  have bT : Below w.heap.size w (w.alloc (.cells #[.int .i64 wd, .slice la t.items.length cap] 36)) := (Below.refl _ _).alloc (Nat.le_refl _) _
  have hT := topD_any wd hw t h la cap _ hc (hi.below bT)
  have hp := t.items_pos
  have hD := t.dig_bd wd
  have HR : Hid (rootP wd (some t) = ofP wd 5 [str (be (t.dig wd) 8)]) := rfl
  clear hi hc h
  generalize t.dig wd = d at *
  generalize t.items.length = n at *
  have x1 : ((n : Int) == 0) = false := by simp; omega
  go_enter Tryz.func8, Tryz.ntmps8
  go_wp2_with fail
  generalize w.alloc (.cells #[.int .i64 wd, .slice la n cap] 36) = w1 at *
  refine hT.mono ?_
  rintro e w2 ⟨rfl, b2⟩
  have B2 := bT.trans (b2.mono bT.size)
  have k2 := (kT.below b2 kT.lt)
  clear b2 bT kT hT
  go_wp2_with fail
  refine (whole_some d w2 hD).mono ?_
  rintro e w3 ⟨u, rfl, ⟨a, c, rfl, hs⟩, b3⟩
  have B3 := B2.trans (b3.mono B2.size)
  have k3 := (k2.below b3 k2.lt)
  have bA : Below w3.heap.size w3 (w3.alloc (.cells #[.int .i64 5, .slice a 1 c] 76)) := (Below.refl _ _).alloc (Nat.le_refl _) _
  have k4 := k3.below bA k3.lt
  have c0 := (k4.cell 0).trans rfl
  have z4 := k4.lt
  clear b3 B2 k2 k3
  go_wp2_with fail
  refine (imgDig_any wd 5 [str (be d 8)] _ _ hw (by unfold maxLen; simp) ⟨a, c, rfl, hs.below bA⟩).mono ?_
  rintro e w4 ⟨rfl, b4⟩
  have B4 := B3.trans (bA.mono B3.size)
  have B5 := B4.trans (b4.mono B4.size)
  clear b4 bA hs B4 B3
  go_wp2
  go_ret
  exact ⟨by rw [HR.out]; rfl, B5⟩
theorem rroot_any (wd : Int) (o : Option Tr) (la : Option Addr) (cap : Nat) (w : World) (hw : okW wd) (h : FineO o) (hc : (itemsO o).length ≤ cap) (hi : ItemsAt w la (itemsO o)) :
    Calls Tryz.prog 8 #[.agg #[.int .i64 wd, .slice la (itemsO o).length cap]] w fun e w' => e = .returned (.int .u64 (rootP wd o)) ∧ Below w.heap.size w w' := by
  cases o with
  | none => exact rroot_none wd la cap w hw
  | some t => exact rroot_some wd t la cap w hw (h t rfl) hc hi
end Go.Proofs.YtmhllihedejehaaGreat
