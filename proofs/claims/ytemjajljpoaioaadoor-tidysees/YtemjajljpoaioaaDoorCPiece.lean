import Derived.Test.YtemjajljpoaioaaDoorCFlow
import Derived.Laws.OwnMore
namespace Go.Proofs.YtemjajljpoaioaaDoor
open Go.RowKit
set_option linter.unusedVariables false
set_option linter.unusedSimpArgs false
set_option maxRecDepth 20000
set_option maxHeartbeats 8000000
theorem made_zero (n : Nat) : madeCells (Value.int .i64 0).cells (n * 1) = (ints (List.replicate n 0)).toArray := by
 apply Array.ext
 ·simp [madeCells, ints]
 ·intro i h1 h2
  simp [madeCells, ints, Value.cells, Nat.mod_one]
theorem make_ints (n : Nat) (hn : n ≤ 2048) (w : World) : (Instr.makeSlice 37 (.int .i64 n) (.int .i64 n)).run Tryd.prog w = .ok (.slice (some ⟨w.heap.size, 0, none⟩) n n) (w.alloc (.cells (ints (List.replicate n 0)).toArray 3)) := by
 obtain ⟨i0, hinf, hz0, hz1, hz2⟩ := info_parts infoInt
 have := run_make (P := Tryd.prog) w 37 3 i0 (.int .i64 0) Tryd.underlying37 hinf hz0 .i64 .i64 n n (by omega) (Int.le_refl _) (by rw [hz2]; omega) (by omega)
 rw [this, hz1]
 simp only [Int.toNat_natCast]
 rw [made_zero]
def part (k n : Nat) : List Int := List.replicate k (-1) ++ List.replicate (n - k) 0
theorem part_zero (n : Nat) : part 0 n = List.replicate n 0 := by simp [part]
theorem part_all (n : Nat) : part n n = List.replicate n (-1) := by simp [part]
theorem part_len (k n : Nat) (h : k ≤ n) : (part k n).length = n := by simp [part]; omega
theorem part_set (k n : Nat) (h : k < n) : (part k n).set k (-1) = part (k + 1) n := by
 unfold part
 rw [show n - k = (n - (k + 1)) + 1 by omega, List.replicate_succ, List.set_append]
 simp only [List.length_replicate, Nat.lt_irrefl, if_false, Nat.sub_self, List.set_cons_zero]
 rw [List.replicate_succ' (n := k)]
 simp
theorem own_pop {w : World} {B : Nat} {g : Nat} {cap n : Nat} {l : List Value} {x : Value} {e : TypeId} (h : w.ownsRow B e 1 (.slice (some ⟨g, 0, none⟩) (n + 1) cap) (n + 1) (l ++ [x])) : w.ownsRow B e 1 (.slice (some ⟨g, 0, none⟩) n cap) n l := by
 obtain ⟨h1, h2 | ⟨g', cap', cur, e1, e2, e3, e4, e5, e6, e7⟩⟩ := h
 ·simp at h2
 simp only [Value.slice.injEq, Option.some.injEq, Addr.mk.injEq, true_and, and_true] at e1
 obtain ⟨rfl, rfl⟩ := e1
 have hl : l.length = n := by simpa using h1
 refine ⟨by omega, .inr ⟨g, cap, cur, rfl, e2, e3, by omega, e5, e6, ?_⟩⟩
 rw [Nat.mul_one] at e7 ⊢
 have := congrArg (List.take n) e7
 rw [List.take_take, Nat.min_eq_left (by omega), List.take_left' hl] at this
 exact this
theorem own_last {w : World} {B : Nat} {g : Nat} {cap n : Nat} {l : List Value} {x : Value} {e : TypeId} (h : w.ownsRow B e 1 (.slice (some ⟨g, 0, none⟩) (n + 1) cap) (n + 1) (l ++ [x])) : w.cell? ⟨g, n, none⟩ = some x ∧ g < w.heap.size ∧ B ≤ g ∧ n + 1 ≤ cap ∧ cap ≤ maxLen := by
 obtain ⟨h1, h2 | ⟨g', cap', cur, e1, e2, e3, e4, e5, e6, e7⟩⟩ := h
 ·simp at h2
 simp only [Value.slice.injEq, Option.some.injEq, Addr.mk.injEq, true_and, and_true] at e1
 obtain ⟨rfl, rfl⟩ := e1
 have hl : l.length = n := by simpa using h1
 refine ⟨?_, (Array.getElem?_eq_some_iff.1 e3).1, e2, e4, e5⟩
 have : w.cell? ⟨g, n, none⟩ = cur[n]? := by simp [World.cell?, e3]
 rw [this, ← Array.getElem?_toList]
 have h8 : (List.take ((n + 1) * 1) cur.toList)[n]? = some x := by rw [e7, ← hl]; simp
 rwa [List.getElem?_take_of_lt (by omega)] at h8
def hsOf (w : World) (hb : Nat) : List Int := match w.heap[hb]? with
 | some (.cells cs _ _) => cs.toList.map intOf
 | _ => []
def osOf (w : World) (wb : Nat) : Nat := match w.cell? ⟨wb, 4, none⟩ with
 | some (.slice _ n _) => n
 | _ => 0
theorem hsOf_blk {w : World} {hb : Nat} {hs : List Int} (h : Blk w hb (ints hs).toArray 3) : hsOf w hb = hs := by
 unfold Blk at h
 unfold hsOf
 rw [h]
 simp only [ints, List.map_map]
 rw [show (intOf ∘ Value.int .i64) = id from rfl]
 simp
def meas (w : World) (hb wb : Nat) : Nat := 2 * unseenN (hsOf w hb) + osOf w wb
theorem StC.meas {w : World} {base hb wb : Nat} {c : Cd} {bla : Option Addr} {blc : Nat} {xs : List Ins} {hs : List Int} {os : List Nat} (h : StC w base hb wb c bla blc xs hs os) : meas w hb wb = 2 * unseenN hs + os.length := by
 obtain ⟨ov, h1, h2, h3, _⟩ := h
 have q := h1.cell 4
 simp only [List.getElem?_toArray, List.getElem?_cons_succ, List.getElem?_cons_zero] at q
 unfold Go.Proofs.YtemjajljpoaioaaDoor.meas
 rw [hsOf_blk h2]
 unfold osOf
 rw [q]
 rcases h3.2 with ⟨rfl, e⟩ | ⟨g, cap, cur, rfl, _⟩
 ·simp only [e]
 ·rfl
theorem unseen_all (n : Nat) : unseenN (List.replicate n (-1)) = n := by
 unfold unseenN
 rw [List.countP_replicate]
 simp
theorem walk_start {ps : List Pc} {xs : List Ins} {hs' : List Int} {os' : List Nat} (e : comeP xs.length (List.replicate xs.length (-1)) [] 0 0 = some (hs', os')) : Walk ps xs hs' os' := by
 have H : Half ps xs (List.replicate xs.length (-1)) [] := by
  refine ⟨by simp, fun k h hk => ?_, fun k h hk h0 => ?_, fun k hk => by simp at hk⟩
  ·have := (List.getElem?_replicate ▸ hk)
   split at this
   ·have := Option.some.inj this; omega
   ·simp at this
  ·have := (List.getElem?_replicate ▸ hk)
   split at this
   ·have := Option.some.inj this; omega
   ·simp at this
 obtain ⟨c1, c2, c3, c4, c5, c6⟩ := come_some H .start (by omega) e
 refine ⟨c1.len, c1.low, c1.rch, c1.seen, fun k h hk h0 => ?_, c3⟩
 rcases c5 k h hk h0 with h1 | h1
 ·exact .inl h1
 ·have := H.rch k h h1 h0
  have := (List.getElem?_replicate ▸ h1)
  split at this
  ·have := Option.some.inj this; omega
  ·simp at this
theorem half_start {ps : List Pc} {xs : List Ins} : Half ps xs (List.replicate xs.length (-1)) [] := by
  refine ⟨by simp, fun k h hk => ?_, fun k h hk h0 => ?_, fun k hk => by simp at hk⟩
  ·have := (List.getElem?_replicate ▸ hk)
   split at this
   ·have := Option.some.inj this; omega
   ·simp at this
  ·have := (List.getElem?_replicate ▸ hk)
   split at this
   ·have := Option.some.inj this; omega
   ·simp at this
set_option maxRecDepth 4000 in
set_option maxHeartbeats 6400000 in
theorem pieceFlows_any (base : Nat) (c : Cd) (p : Pc) (w : World) (E : Env base w c p.bd) (hf : ∀ i ∈ p.bd.xs, fiB c.ps.xs.length c.ns.xs.length p.bd.xs.length p.lo i = true) (hp : ∀ q ∈ c.ps.xs, 0 ≤ q.pa ∧ q.pa ≤ 8) (hmax : p.bd.xs.length ≤ 2048) :
  Calls Tryd.prog 27 #[.agg #[.slice c.ps.la c.ps.xs.length c.ps.lc, .slice c.ns.la c.ns.xs.length c.ns.lc], .agg #[.string ⟨p.nm.toArray⟩, .bool p.open_, .int .i64 p.pa, .int .i64 p.lo, .slice p.bd.la p.bd.xs.length p.bd.lc]] w fun e w' => e = .returned (.bool (goodB c.ps.xs p.bd.xs)) ∧ Below w.heap.size w w' := by
 obtain ⟨nm, ob, pa, lo, bla, blc, xs⟩ := p
 simp only at E hf hmax ⊢
 have bA : Below w.heap.size w (w.alloc (.cells #[.slice c.ps.la c.ps.xs.length c.ps.lc, .slice c.ns.la c.ns.xs.length c.ns.lc] 25)) := (Below.refl _ _).alloc (Nat.le_refl _) _
 have bB := bA.alloc (o := .cells #[.string ⟨nm.toArray⟩, .bool ob, .int .i64 pa, .int .i64 lo, .slice bla xs.length blc] 34) bA.size
 have kA := (Blk.new w #[.slice c.ps.la c.ps.xs.length c.ps.lc, .slice c.ns.la c.ns.xs.length c.ns.lc] 25).alloc (.cells #[.string ⟨nm.toArray⟩, .bool ob, .int .i64 pa, .int .i64 lo, .slice bla xs.length blc] 34)
 have kB := Blk.new (w.alloc (.cells #[.slice c.ps.la c.ps.xs.length c.ps.lc, .slice c.ns.la c.ns.xs.length c.ns.lc] 25)) #[.string ⟨nm.toArray⟩, .bool ob, .int .i64 pa, .int .i64 lo, .slice bla xs.length blc] 34
 simp only [World.size_alloc] at kB
 have hsz : ((w.alloc (.cells #[.slice c.ps.la c.ps.xs.length c.ps.lc, .slice c.ns.la c.ns.xs.length c.ns.lc] 25)).alloc (.cells #[.string ⟨nm.toArray⟩, .bool ob, .int .i64 pa, .int .i64 lo, .slice bla xs.length blc] 34)).heap.size = w.heap.size + 2 := by simp
 have hmk := make_ints xs.length hmax
 have EE : Hid (∀ y : World, Below w.heap.size w y → Env w.heap.size y c ⟨bla, blc, xs⟩) := fun y hy => by
  have e1 := E.below (hy.mono E.2.2.1)
  exact ⟨e1.1, Nat.lt_of_lt_of_le E.2.1 E.2.2.1, hy.size, Lst.held Pc.len (Fld.good_mono E.2.2.1 _ (Lst.good Pc.len e1.2.2.2.1)), Lst.held Ins.len (Fld.good_mono E.2.2.1 _ (Lst.good Ins.len e1.2.2.2.2))⟩
 clear bA E
 go_enter Tryd.func27, Tryd.ntmps27
 go_upto_region 1 with fail
 generalize hWA : ((w.alloc (.cells #[.slice c.ps.la c.ps.xs.length c.ps.lc, .slice c.ns.la c.ns.xs.length c.ns.lc] 25)).alloc (.cells #[.string ⟨nm.toArray⟩, .bool ob, .int .i64 pa, .int .i64 lo, .slice bla xs.length blc] 34)) = wA at *
 clear hWA
 have q0 := kA.cell 0
 have q1 := kA.cell 1
 have q2 := kB.cell 4
 simp only [List.getElem?_toArray, List.getElem?_cons_succ, List.getElem?_cons_zero] at q0 q1 q2
 have hz0 := kA.lt
 have hz1 := kB.lt
 go_region_held3 (fun w' => w'.cell? ⟨w.heap.size, 0, none⟩ = some (.slice c.ps.la c.ps.xs.length c.ps.lc) ∧ w'.cell? ⟨w.heap.size, 1, none⟩ = some (.slice c.ns.la c.ns.xs.length c.ns.lc) ∧ w'.cell? ⟨w.heap.size + 1, 4, none⟩ = some (.slice bla xs.length blc)) (go_keep)
  (fail)
 have kH0 := (((Blk.new wA (ints (List.replicate xs.length 0)).toArray 3).alloc (.cells #[.slice c.ps.la c.ps.xs.length c.ps.lc, .slice c.ns.la c.ns.xs.length c.ns.lc, .slice bla xs.length blc, .slice (some ⟨w.heap.size + 2, 0, none⟩) xs.length xs.length, .slice none 0 0] 70)).drew)
 have kW0 := (Blk.new (wA.alloc (.cells (ints (List.replicate xs.length 0)).toArray 3)) #[.slice c.ps.la c.ps.xs.length c.ps.lc, .slice c.ns.la c.ns.xs.length c.ns.lc, .slice bla xs.length blc, .slice (some ⟨w.heap.size + 2, 0, none⟩) xs.length xs.length, .slice none 0 0] 70).drew
 have bC := ((bB.alloc (o := .cells (ints (List.replicate xs.length 0)).toArray 3) bB.size).alloc (o := .cells #[.slice c.ps.la c.ps.xs.length c.ps.lc, .slice c.ns.la c.ns.xs.length c.ns.lc, .slice bla xs.length blc, .slice (some ⟨w.heap.size + 2, 0, none⟩) xs.length xs.length, .slice none 0 0] 70) (by simp; omega)).drew
 simp only [World.size_alloc] at kW0
 rw [hsz] at kH0 kW0
 generalize (((wA.alloc (.cells (ints (List.replicate xs.length 0)).toArray 3)).alloc (.cells #[.slice c.ps.la c.ps.xs.length c.ps.lc, .slice c.ns.la c.ns.xs.length c.ns.lc, .slice bla xs.length blc, .slice (some ⟨w.heap.size + 2, 0, none⟩) xs.length xs.length, .slice none 0 0] 70)).drew) = wB at *
 rw [← part_zero] at kH0
 clear q0 q1 q2 hz0 hz1 kA kB hmk bB hsz
 have r3 := kW0.cell 3
 simp only [List.getElem?_toArray, List.getElem?_cons_succ, List.getElem?_cons_zero] at r3
 have hzw := kW0.lt
 simp only [Exit.then]
 go_wp2_with fail
 go_loopw [6, 22] (fun uv iv wv => ∃ (k : Nat), k ≤ xs.length ∧ iv = .int .i64 k ∧ Blk wv (w.heap.size + 2) (ints (part k xs.length)).toArray 3 ∧ Blk wv (w.heap.size + 2 + 1) #[.slice c.ps.la c.ps.xs.length c.ps.lc, .slice c.ns.la c.ns.xs.length c.ns.lc, .slice bla xs.length blc, .slice (some ⟨w.heap.size + 2, 0, none⟩) xs.length xs.length, .slice none 0 0] 70 ∧ Below w.heap.size w wv) (fun _ iv _ => xs.length - (intOf iv).toNat)
 case atStart => exact ⟨0, Nat.zero_le _, rfl, kH0, kW0, bC⟩
 case round =>
  obtain ⟨k, hk, rfl, kH, kW, bk⟩ := hrel
  clear kH0 kW0 bC r3 hzw
  have r3 := kW.cell 3
  simp only [List.getElem?_toArray, List.getElem?_cons_succ, List.getElem?_cons_zero] at r3
  have hzw := kW.lt
  by_cases hkn : k < xs.length
  ·have hki : (k : Int) < (xs.length : Int) := by omega
   obtain ⟨x, hx⟩ : ∃ x, (part k xs.length)[k]? = some x := ⟨_, List.getElem?_eq_getElem (by rw [part_len _ _ hk]; exact hkn)⟩
   have r := kH.cell k
   rw [ints_get, hx] at r
   simp only [Option.map_some] at r
   have rf := kH.frozen k
   have kH1 := kH.set k (.int .i64 (-1))
   rw [ints_set, part_set k _ hkn] at kH1
   have kW1 := kW.setOther ⟨w.heap.size + 2, k, none⟩ (by simp) (.int .i64 (-1))
   have b1 := bk.setCell (p := ⟨w.heap.size + 2, k, none⟩) (by simp) (.int .i64 (-1))
   have hzh := kH.lt
   have HX := show Hid (_ = _) from hx
   clear hx
   go_wp2
   exact ⟨⟨k + 1, by omega, by go_num, kH1, kW1, b1⟩, by simp [intOf]; omega⟩
  have hki : ¬ (k : Int) < (xs.length : Int) := by omega
  obtain rfl : k = xs.length := by omega
  rw [part_all] at kH
  have S0 : StC wr w.heap.size (w.heap.size + 2) (w.heap.size + 2 + 1) c bla blc xs (List.replicate xs.length (-1)) [] := ⟨_, kW, kH, World.ownsRow_nil _ _ _ _, by omega, by omega, by simp, hmax, by rw [unseen_all]; simp⟩
  have key := come_any w.heap.size (w.heap.size + 2) (w.heap.size + 2 + 1) c bla blc xs (List.replicate xs.length (-1)) [] 0 0 wr S0 (Int.le_refl _)
  clear S0 kH kW
  go_wp2_with fail
  refine key.mono ?_
  rintro e w1 ⟨⟨rfl, hS⟩, b1, _⟩
  clear key r3 hzw
  have B1 : Below w.heap.size w w1 := bk.trans (b1.mono (by omega))
  cases hc : comeP xs.length (List.replicate xs.length (-1)) [] 0 0 with
  | none =>
   have hb := goodB_false (come_none (ps := c.ps.xs) half_start .start hc)
   have HB := show Hid (_ = _) from hb
   clear hb hS hc
   go_wp2
   go_ret
   exact ⟨by rw [HB.out]; rfl, B1⟩
  | some s =>
   obtain ⟨hs0, os0⟩ := s
   have S1 := hS _ hc
   simp only at S1
   have W1 : Walk c.ps.xs xs hs0 os0 := walk_start hc
   clear hS hc
   go_wp2_with fail
   go_loopw [7] (fun av wv => ∃ (hs : List Int) (os : List Nat), Hid (Walk c.ps.xs xs hs os) ∧ Hid (StC wv w.heap.size (w.heap.size + 2) (w.heap.size + 2 + 1) c bla blc xs hs os) ∧ Below w.heap.size w wv) (fun _ wv => meas wv (w.heap.size + 2) (w.heap.size + 2 + 1))
   case atStart => exact ⟨hs0, os0, W1, S1, B1⟩
   case round =>
    obtain ⟨hs, os, HW, HS, bv⟩ := hrel
    clear S1 W1 B1
    have hm0 := HS.out.meas
    obtain ⟨ov, kW, kH, hown, hbb, hbw, hlen, hmx, hcap⟩ := HS.out
    have q4 := kW.cell 4
    simp only [List.getElem?_toArray, List.getElem?_cons_succ, List.getElem?_cons_zero] at q4
    have hzw := kW.lt
    rcases List.eq_nil_or_concat os with rfl | ⟨os', k, rfl⟩
    ·obtain ⟨va, vc, rfl⟩ : ∃ va vc, ov = .slice va 0 vc := by
      rcases hown.2 with ⟨rfl, _⟩ | ⟨g, cap, cur, rfl, _⟩
      ·exact ⟨_, _, rfl⟩
      ·exact ⟨_, _, rfl⟩
     have HB : Hid (goodB c.ps.xs xs = true) := goodB_true HW.out.good
     clear hown kW kH hm0 HW HS hf hp hcap
     go_wp2
     go_ret
     exact ⟨by rw [HB.out]; rfl, bv⟩
    ·rw [List.concat_eq_append] at *
     have hl1 : (os' ++ [k]).length = os'.length + 1 := by simp
     rw [hl1] at hown hm0 hcap
     rw [← nats_one] at hown
     obtain ⟨g, cap, rfl⟩ : ∃ g cap, ov = .slice (some ⟨g, 0, none⟩) (os'.length + 1) cap := by
      rcases hown.2 with ⟨_, h⟩ | ⟨g, cap, cur, rfl, _⟩
      ·omega
      ·exact ⟨_, _, rfl⟩
     obtain ⟨l1, l2, l3, l4, l5⟩ := own_last hown
     obtain ⟨h, hk, h0⟩ := HW.out.seen k (by simp)
     have h64 := (HW.out.rch k h hk h0).2
     have hkl : k < xs.length := by rw [← hlen]; exact (List.getElem?_eq_some_iff.1 hk).1
     obtain ⟨i, hi⟩ : ∃ i, xs[k]? = some i := ⟨_, List.getElem?_eq_getElem hkl⟩
     have hol : os'.length ≤ 2048 := by omega
     have wf := kW.frozen 4
     have HK : Hid (hs[k]? = some h ∧ xs[k]? = some i ∧ 0 ≤ h ∧ h ≤ 64) := ⟨hk, hi, h0, h64⟩
     have HM := show Hid (_ = _) from hm0
     have HA := show Hid (_ ∧ _ ∧ _) from ⟨kW, kH, hown⟩
     clear hown kW kH hm0 hk hi
     go_wp2_with fail
     go_quiet (fail)
     have hq : Below wr.heap.size wr (wr.drewN nq) := below_drewN (Below.refl _ _) nq
     obtain ⟨kW, kH, hown⟩ := HA.out
     have kW' := kW.below hq kW.lt
     have kH' := kH.below hq kH.lt
     have hown' := owns_below hown hq
     have bv' := bv.trans (hq.mono bv.size)
     clear q4 wf HA l1 l2 kW kH hown hq HS bv hzw
     simp only [Exit.then]
     generalize wr.drewN nq = wy at *
     have q4 := kW'.cell 4
     simp only [List.getElem?_toArray, List.getElem?_cons_succ, List.getElem?_cons_zero] at q4
     have wf := kW'.frozen 4
     have hzw := kW'.lt
     have hpop := own_pop hown'
     have kW1 := kW'.set 4 (.slice (some ⟨g, 0, none⟩) os'.length cap)
     have kH1 := kH'.setOther ⟨w.heap.size + 2 + 1, 4, none⟩ (by simp) (.slice (some ⟨g, 0, none⟩) os'.length cap)
     have hpop1 := ownsRow_setCell_below hpop (a := ⟨w.heap.size + 2 + 1, 4, none⟩) (by simp) (.slice (some ⟨g, 0, none⟩) os'.length cap)
     have S2 : StC (wy.setCell ⟨w.heap.size + 2 + 1, 4, none⟩ (.slice (some ⟨g, 0, none⟩) os'.length cap)) w.heap.size (w.heap.size + 2) (w.heap.size + 2 + 1) c bla blc xs hs os' := ⟨_, kW1, kH1, hpop1, hbb, hbw, hlen, hmx, by omega⟩
     have b2 := bv'.setCell (p := ⟨w.heap.size + 2 + 1, 4, none⟩) (by simp; omega) (.slice (some ⟨g, 0, none⟩) os'.length cap)
     have SS : Hid (∀ y : World, Below (wy.setCell ⟨w.heap.size + 2 + 1, 4, none⟩ (.slice (some ⟨g, 0, none⟩) os'.length cap)).heap.size (wy.setCell ⟨w.heap.size + 2 + 1, 4, none⟩ (.slice (some ⟨g, 0, none⟩) os'.length cap)) y → StC y w.heap.size (w.heap.size + 2) (w.heap.size + 2 + 1) c bla blc xs hs os' ∧ Below w.heap.size w y) := fun y hy => ⟨S2.below hy, b2.trans (hy.mono b2.size)⟩
     clear kW1 kH1 hpop1 S2 b2 hpop hown' kH' kW'
     go_wp2_with fail
     go_region
     simp only [Exit.then]
     obtain ⟨S2, b2⟩ := SS.out (wy.setCell ⟨w.heap.size + 2 + 1, 4, none⟩ (.slice (some ⟨g, 0, none⟩) os'.length cap)).drew (Below.refl _ _).drew
     obtain ⟨hk, hi, h0, h64⟩ := HK.out
     have key := leave_any w.heap.size (w.heap.size + 2) (w.heap.size + 2 + 1) c bla blc xs lo hs os' k h i _ S2 (EE.out _ b2) hk hi h0 h64 (hf i (List.mem_of_getElem? hi)) hp
     generalize (wy.setCell ⟨w.heap.size + 2 + 1, 4, none⟩ (.slice (some ⟨g, 0, none⟩) os'.length cap)).drew = wz at *
     clear SS S2 q4 wf hzw HK bv'
     go_wp2_with fail
     refine key.mono ?_
     rintro e w3 ⟨⟨rfl, hS⟩, b3⟩
     have B3 : Below w.heap.size w w3 := b2.trans (b3.mono (by omega))
     clear key
     cases hc : leaveP c.ps.xs xs hs os' k h i with
     | none =>
      have hb := goodB_false (HW.out.not_good hk hi (leaves_nonneg i) hc)
      have HB := show Hid (_ = _) from hb
      clear hb hS hc hk hi
      go_wp2
      go_ret
      exact ⟨by rw [HB.out]; rfl, B3⟩
     | some s =>
      obtain ⟨hs1, os1⟩ := s
      have S3 := hS _ hc
      simp only at S3
      obtain ⟨W3, hle⟩ := HW.out.step hk hi (leaves_nonneg i) hc
      have hm3 := S3.meas
      have HM3 := show Hid (_ = _) from hm3
      clear hS hc hk hi hm3
      go_wp2
      exact ⟨⟨hs1, os1, W3, S3, B3⟩, by rw [HM3.out, HM.out]; omega⟩
end Go.Proofs.YtemjajljpoaioaaDoor
