import Derived.Test.YtackcbpabjhmpaaGreatJRd
import Derived.Lib.UnsafeStr
import Derived.Lib.BufferWrite
import Derived.Laws.MakeOwn
namespace Go.Proofs.YtackcbpabjhmpaaGreat
open Go.RowKit
set_option linter.unusedVariables false
set_option linter.unusedSimpArgs false
theorem rep_cons (c : Sc) (n : Nat) (h : 0 < n) : List.replicate n c = [c] ++ List.replicate (n - 1) c := by
 cases n with
 | zero => cases h
 | succ n => rfl
set_option maxHeartbeats 1600000 in
theorem numbers_rd (b xb lb cap o k : Nat) (cs : Array Value) (t : TypeId) (s : List UInt8) (w : World) (hk : k ≤ 16) (h : At b xb o cs t (List.replicate k (.num 1099511627775)) s w) (hlb : lb < w.heap.size) (hl1 : lb ≠ b) (hl2 : lb ≠ xb) (hA : ∀ i, i < k → w.cell? ⟨lb, i, none⟩ = some (.pointer (some ⟨xb, o + i, none⟩))) :
  Calls Tryz.prog 124 #[.pointer (some ⟨b, 0, none⟩), .slice (some ⟨lb, 0, none⟩) k cap] w fun e w' => RdE b xb o cs t (List.replicate k (.num 1099511627775)) s w e w' := by
 have HA := show Hid (∀ i, _) from hA
 have H0 : Hid (At b xb o cs t (List.replicate k (.num 1099511627775)) s w) := h
 clear hA h
 go_enter Tryz.func124, Tryz.ntmps124
 go_wp2
 go_loopw [5, 8] (fun _ iv wv => ∃ (i : Nat) (c1 : Array Value) (s1 : List UInt8), i ≤ k ∧ iv = .int .i64 i ∧ Hid (At b xb (o + i) c1 t (List.replicate (k - i) (.num 1099511627775)) s1 wv) ∧ Hid (∀ e' w', RdE b xb (o + i) c1 t (List.replicate (k - i) (.num 1099511627775)) s1 wv e' w' → RdE b xb o cs t (List.replicate k (.num 1099511627775)) s w e' w') ∧ But (fun k => k = b ∨ k = xb) w wv) (fun _ iv _ => k - (intOf iv).toNat)
 case atStart => exact ⟨0, cs, s, Nat.zero_le _, rfl, H0, fun e' w' q => q, But.refl _ _⟩
 case round =>
  obtain ⟨i, c1, s1, hi, rfl, HAt, HC, B⟩ := hrel
  clear H0
  by_cases hlt : i < k
  ·have hlt' : (i : Int) < (k : Int) := by omega
   have c5 : wr.cell? ⟨lb, i, none⟩ = some (.pointer (some ⟨xb, o + i, none⟩)) := by
    rw [B.cell (p := ⟨lb, i, none⟩) hlb (fun q => Or.elim q hl1 hl2)]
    exact HA.out i hlt
   have zl : lb < wr.heap.size := Nat.lt_of_lt_of_le hlb B.size
   have e1 := rep_cons (.num 1099511627775) (k - i) (by omega)
   have HAt2 : Hid (At b xb (o + i) c1 t ([.num 1099511627775] ++ List.replicate (k - i - 1) (.num 1099511627775)) s1 wr) := by rw [← e1]; exact HAt
   have HC2 : Hid (∀ e' w', RdE b xb (o + i) c1 t ([.num 1099511627775] ++ List.replicate (k - i - 1) (.num 1099511627775)) s1 wr e' w' → RdE b xb o cs t (List.replicate k (.num 1099511627775)) s w e' w') := by rw [← e1]; exact HC
   have K := number_reads b xb (o + i) c1 t s1 wr HAt2.out.left
   clear HAt HC e1
   go_wp2_with fail
   refine K.mono ?_
   clear K
   intro e w1 hE
   have B1 := B.trans hE.1
   rcases HAt2.out.step hE with ⟨er, rfl, hF⟩ | ⟨rfl, c2, s2, A2, C2⟩
   ·have HF : Hid (RdE b xb o cs t (List.replicate k (.num 1099511627775)) s w (refusedE er) w1) := HC2.out _ _ hF
    clear hE hF HAt2 HC2
    unfold refusedE at *
    go_wp2
    exact ⟨rfl, HF.out⟩
   ·have HA3 : Hid (At b xb (o + (i + 1)) c2 t (List.replicate (k - (i + 1)) (.num 1099511627775)) s2 w1) := A2
    have HC3 : Hid (∀ e' w', RdE b xb (o + (i + 1)) c2 t (List.replicate (k - (i + 1)) (.num 1099511627775)) s2 w1 e' w' → RdE b xb o cs t (List.replicate k (.num 1099511627775)) s w e' w') := fun e' w' q => HC2.out _ _ (C2 e' w' q)
    clear hE HAt2 HC2 A2 C2
    go_wp2
    exact ⟨⟨i + 1, c2, s2, by omega, by go_num, HA3, HC3, B1⟩, by simp [intOf]; omega⟩
  ·have hge : ¬ (i : Int) < (k : Int) := by omega
   have HE : Hid (RdE b xb o cs t (List.replicate k (.num 1099511627775)) s w (.returned (.tuple #[])) wr) := by
    refine HC.out _ _ ?_
    rw [show k - i = 0 by omega]
    exact RdE.nil HAt.out.rd HAt.out.x
   clear HAt HC
   go_wp2
   go_end0
   exact HE.out
set_option maxHeartbeats 1600000 in
theorem digests_rd (b xb lb cap o k : Nat) (cs : Array Value) (t : TypeId) (s : List UInt8) (w : World) (hk : k ≤ 16) (h : At b xb o cs t (List.replicate k .dig) s w) (hlb : lb < w.heap.size) (hl1 : lb ≠ b) (hl2 : lb ≠ xb) (hA : ∀ i, i < k → w.cell? ⟨lb, i, none⟩ = some (.pointer (some ⟨xb, o + i, none⟩))) :
  Calls Tryz.prog 148 #[.pointer (some ⟨b, 0, none⟩), .slice (some ⟨lb, 0, none⟩) k cap] w fun e w' => RdE b xb o cs t (List.replicate k .dig) s w e w' := by
 have HA := show Hid (∀ i, _) from hA
 have H0 : Hid (At b xb o cs t (List.replicate k .dig) s w) := h
 clear hA h
 go_enter Tryz.func148, Tryz.ntmps148
 go_wp2
 go_loopw [5, 8] (fun _ iv wv => ∃ (i : Nat) (c1 : Array Value) (s1 : List UInt8), i ≤ k ∧ iv = .int .i64 i ∧ Hid (At b xb (o + i) c1 t (List.replicate (k - i) .dig) s1 wv) ∧ Hid (∀ e' w', RdE b xb (o + i) c1 t (List.replicate (k - i) .dig) s1 wv e' w' → RdE b xb o cs t (List.replicate k .dig) s w e' w') ∧ But (fun k => k = b ∨ k = xb) w wv) (fun _ iv _ => k - (intOf iv).toNat)
 case atStart => exact ⟨0, cs, s, Nat.zero_le _, rfl, H0, fun e' w' q => q, But.refl _ _⟩
 case round =>
  obtain ⟨i, c1, s1, hi, rfl, HAt, HC, B⟩ := hrel
  clear H0
  by_cases hlt : i < k
  ·have hlt' : (i : Int) < (k : Int) := by omega
   have c5 : wr.cell? ⟨lb, i, none⟩ = some (.pointer (some ⟨xb, o + i, none⟩)) := by
    rw [B.cell (p := ⟨lb, i, none⟩) hlb (fun q => Or.elim q hl1 hl2)]
    exact HA.out i hlt
   have zl : lb < wr.heap.size := Nat.lt_of_lt_of_le hlb B.size
   have e1 := rep_cons .dig (k - i) (by omega)
   have HAt2 : Hid (At b xb (o + i) c1 t ([.dig] ++ List.replicate (k - i - 1) .dig) s1 wr) := by rw [← e1]; exact HAt
   have HC2 : Hid (∀ e' w', RdE b xb (o + i) c1 t ([.dig] ++ List.replicate (k - i - 1) .dig) s1 wr e' w' → RdE b xb o cs t (List.replicate k .dig) s w e' w') := by rw [← e1]; exact HC
   have K := digest_reads b xb (o + i) c1 t s1 wr HAt2.out.left
   clear HAt HC e1
   go_wp2_with fail
   refine K.mono ?_
   clear K
   intro e w1 hE
   have B1 := B.trans hE.1
   rcases HAt2.out.step hE with ⟨er, rfl, hF⟩ | ⟨rfl, c2, s2, A2, C2⟩
   ·have HF : Hid (RdE b xb o cs t (List.replicate k .dig) s w (refusedE er) w1) := HC2.out _ _ hF
    clear hE hF HAt2 HC2
    unfold refusedE at *
    go_wp2
    exact ⟨rfl, HF.out⟩
   ·have HA3 : Hid (At b xb (o + (i + 1)) c2 t (List.replicate (k - (i + 1)) .dig) s2 w1) := A2
    have HC3 : Hid (∀ e' w', RdE b xb (o + (i + 1)) c2 t (List.replicate (k - (i + 1)) .dig) s2 w1 e' w' → RdE b xb o cs t (List.replicate k .dig) s w e' w') := fun e' w' q => HC2.out _ _ (C2 e' w' q)
    clear hE HAt2 HC2 A2 C2
    go_wp2
    exact ⟨⟨i + 1, c2, s2, by omega, by go_num, HA3, HC3, B1⟩, by simp [intOf]; omega⟩
  ·have hge : ¬ (i : Int) < (k : Int) := by omega
   have HE : Hid (RdE b xb o cs t (List.replicate k .dig) s w (.returned (.tuple #[])) wr) := by
    refine HC.out _ _ ?_
    rw [show k - i = 0 by omega]
    exact RdE.nil HAt.out.rd HAt.out.x
   clear HAt HC
   go_wp2
   go_end0
   exact HE.out
theorem infoB8 : (Tryz.prog.info? 5).map (fun i => (i.zero, i.size, i.bytes)) = some (some (.int .u8 0), 1, 1) := by kernel_rfl
set_option maxRecDepth 8000 in
set_option maxHeartbeats 1600000 in
theorem clone_any (l : List UInt8) (w : World) (hl : l.length ≤ 1000000) :
  Calls Tryz.prog 268 #[.string ⟨l.toArray⟩] w fun e w' => e = .returned (.string ⟨l.toArray⟩) ∧ Below w.heap.size w w' := by
 have sz := str_size' l
 cases l with
 | nil =>
  go_enter Tryz.func268, Tryz.ntmps268
  go_wp2
  go_ret
  exact ⟨rfl, Below.refl _ _⟩
 | cons c r =>
  obtain ⟨i0, hi, hz0, hz1, hz2⟩ := info_parts infoB8
  have hne : (((c :: r).length : Int) == 0) = false := by rw [beq_eq_false_iff_ne]; simp only [List.length_cons]; omega
  obtain ⟨n, hn⟩ : ∃ n, (c :: r).length = n := ⟨_, rfl⟩
  have hmk := run_makeSlice (P := Tryz.prog) w 183 5 i0 (.int .u8 0) Tryz.underlying183 hi hz0 .i64 .i64 (n : Int) (n : Int) (by omega) (by omega) (by rw [hz1]; simp; omega) (by rw [hz2]; simp; omega) (by omega)
  rw [hz1, Nat.mul_one, Int.toNat_natCast, show (Value.int .u8 0).cells = #[.int .u8 0] from rfl] at hmk
  have k1 := Blk.new w (madeCells #[.int .u8 0] n) 5
  have bA : Below w.heap.size w (w.alloc (.cells (madeCells #[.int .u8 0] n) 5)) := (Below.refl _ _).alloc (Nat.le_refl _) _
  have hcp := Lib.run_copy_row_string (P := Tryz.prog) (w.alloc (.cells (madeCells #[.int .u8 0] n) 5)) 183 9 3 5 w.heap.size 0 n n ⟨(c :: r).toArray⟩ (madeCells #[.int .u8 0] n) 5 Tryz.underlying183 (by rw [hi]; simp [hz1]) k1 (by rw [sz]; omega) (by rw [sz, size_madeCells]; omega)
  rw [sz] at hcp
  have hlen : (madeCells #[.int .u8 0] n).toList.length = n := by rw [Array.length_toList, size_madeCells]
  have ecs : (List.take 0 (madeCells #[.int .u8 0] n).toList ++ Lib.byteCells (c :: r) ++ List.drop (0 + (c :: r).length) (madeCells #[.int .u8 0] n).toList) = Lib.byteCells (c :: r) := by
   rw [List.take_zero, List.nil_append, List.drop_of_length_le (by rw [hlen]; omega), List.append_nil]
  rw [show (⟨(c :: r).toArray⟩ : ByteArray).data.toList = c :: r from rfl, ecs] at hcp
  have HB : Hid ((w.alloc (.cells (madeCells #[.int .u8 0] n) 5)).setRow w.heap.size (Lib.byteCells (c :: r)).toArray = w.alloc (.cells (Lib.byteCells (c :: r)).toArray 5)) := by
   show _ = _
   unfold World.setRow World.alloc
   congr 1
   apply Array.ext
   ·simp
   ·intro i h1 h2
    simp only [Array.getElem_modify, Array.getElem_push]
    by_cases hi2 : w.heap.size = i
    ·subst hi2
     simp
    ·have : i < w.heap.size := by simp at h2; omega
     simp [hi2, this]
  generalize hl2 : c :: r = l at *
  have hcell : ∀ j x, l[j]? = some x → (w.alloc (.cells (Lib.byteCells l).toArray 5)).cell? ((⟨w.heap.size, 0, none⟩ : Addr).add j) = some (.int .u8 x.toNat) := by
   intro j x hx
   rw [show (⟨w.heap.size, 0, none⟩ : Addr).add j = ⟨w.heap.size, j, none⟩ by unfold Addr.add; split <;> simp_all]
   rw [(Blk.new w (Lib.byteCells l).toArray 5).cell]
   simp [Lib.byteCells, hx]
  have hus := Lib.run_unsafeString_row (P := Tryz.prog) (w.alloc (.cells (Lib.byteCells l).toArray 5)) 355 3 9 5 Tryz.underlying355 (by kernel_rfl) w.heap.size n (by
   have k2 := Blk.new w (Lib.byteCells l).toArray 5
   unfold Blk at k2
   simp only [World.shape?, k2]
   rw [show (Lib.byteCells l).toArray.size = n by simp [Lib.byteCells]; exact hn]) l (by rw [← hl2]; simp) (by omega) (by omega) hcell
  rw [HB.out] at hcp
  rw [hn] at hcp hus
  have hn0 : (0 : Int) < (n : Int) := by rw [← hn, ← hl2]; simp only [List.length_cons]; omega
  have bB : Below w.heap.size w ((w.alloc (.cells (Lib.byteCells l).toArray 5)).freeze ⟨w.heap.size, 0, none⟩ n) := Lib.below_freeze ((Below.refl _ _).alloc (Nat.le_refl _) _) (Nat.le_refl _) _
  rw [hn] at hne sz
  have HN : Hid (l.length = n) := hn
  clear hlen ecs k1 bA hcell hz0 hz1 hz2 hi hl hn hl2 HB
  go_enter Tryz.func268, Tryz.ntmps268
  go_wp2
  go_ret
  exact ⟨rfl, bB⟩
set_option maxHeartbeats 1600000 in
theorem sclone_any (l : List UInt8) (w : World) (hl : l.length ≤ 1000000) :
  Calls Tryz.prog 225 #[.string ⟨l.toArray⟩] w fun e w' => e = .returned (.string ⟨l.toArray⟩) ∧ Below w.heap.size w w' := by
 have K := clone_any l w hl
 go_enter Tryz.func225, Tryz.ntmps225
 go_wp2_with fail
 refine K.mono ?_
 rintro e w1 ⟨rfl, b1⟩
 go_wp2
 go_ret
 exact ⟨rfl, b1⟩
set_option maxHeartbeats 1600000 in
theorem text_rd (b xb o : Nat) (cs : Array Value) (t : TypeId) (most : Int) (s : List UInt8) (w : World) (hm : 0 ≤ most ∧ most ≤ 100000) (h : At b xb o cs t [.text most] s w) :
  Calls Tryz.prog 153 #[.pointer (some ⟨b, 0, none⟩), .pointer (some ⟨xb, o, none⟩), .int .i64 most] w fun e w' => RdE b xb o cs t [.text most] s w e w' := by
 have zb := h.lb
 have zx := h.x.lt
 have hne := h.ne
 have hj := h.z.lt
 have hlen := h.len
 have bA : Below w.heap.size w (w.alloc (.cells #[.int .i64 0] 3)) := (Below.refl _ _).alloc (Nat.le_refl _) _
 have kN := Blk.new w #[.int .i64 0] 3
 have c1 : w.cell? ⟨xb, o, none⟩ = some (.string ⟨#[]⟩) := by rw [h.x.cell]; exact h.z 0 _ rfl
 have KB := bounded_n b w.heap.size 0 #[.int .i64 0] 3 most s _ (by omega) hlen (Blk.below h.rd bA zb) kN (by simp) (by omega)
 have HX : Hid (Blk w xb cs t) := h.x
 have HT : Hid (readAll [.text most] s = match textP most s with | .error e => .error e | .ok (v, r) => .ok ([.s v], r)) := by
  show _ = _
  rw [readAll_one, Sc.read]
  cases textP most s with
  | error e => rfl
  | ok p => rfl
 clear h
 go_enter Tryz.func153, Tryz.ntmps153
 go_wp2_with fail
 refine KB.mono ?_
 clear KB
 rintro e w1 ⟨B1, ⟨er, h1, rfl⟩ | ⟨n, r, h1, rfl, k1, kn1⟩⟩
 ·have HE : Hid (RdE b xb o cs t [.text most] s w (refusedE er) w1) := by
   refine ⟨(But.of_below bA).trans_new B1 (fun k hk q => by rcases q with q | q <;> omega), .inl ⟨er, ?_, rfl⟩⟩
   rw [HT.out, textP, h1]
  clear h1 HT
  unfold refusedE at *
  go_wp2
  exact ⟨rfl, HE.out⟩
 obtain ⟨_, hn0, hnm, _⟩ := numP_back h1
 have hrl : r.length ≤ s.length := by
  have := (numP_back h1).1
  rw [← this, List.length_append]; omega
 have BT : But (fun k => k = b ∨ k = xb) w w1 := (But.of_below bA).trans_new B1 (fun k hk q => by rcases q with q | q <;> omega)
 have kx1 : Blk w1 xb cs t := B1.blk (HX.out.below bA zx) (fun q => by rcases q with q | q <;> omega)
 obtain ⟨m, rfl⟩ : ∃ m : Nat, n = m := ⟨n.toNat, by omega⟩
 have k1' : Blk w1 b #[.bool true, .slice none 0 0, .string ⟨r.toArray⟩] 185 := k1
 have p0 := (k1'.cell 0).trans rfl
 have zp := k1'.lt
 have n0 : w1.cell? ⟨w.heap.size, 0, none⟩ = some (.int .i64 (m : Int)) := (kn1.cell 0).trans rfl
 have zn := kn1.lt
 have HT2 : Hid (readAll [.text most] s = match (if r.length < m then (.error 1 : Rs (List UInt8)) else .ok (r.take m, r.drop m)) with | .error e => .error e | .ok (v, r) => .ok ([.s v], r)) := by
  show _ = _
  rw [HT.out, textP, h1]
  simp only [Int.toNat_natCast]
  rfl
 clear c1 HT h1 kN
 by_cases hs : r.length < m
 ·have KC := cut_short b r m w1 k1 hs (by omega)
  have HE : Hid (RdE b xb o cs t [.text most] s w (refusedE 1) w1) := ⟨BT, .inl ⟨1, by rw [HT2.out, if_pos hs], rfl⟩⟩
  clear HT2
  go_wp2_with fail
  refine KC.mono ?_
  rintro e w2 ⟨rfl, rfl⟩
  unfold refusedE at *
  go_wp2
  exact ⟨rfl, HE.out⟩
 ·have KC := cut_any b r m w1 k1 (by omega) (by omega)
  have hR := HT2.out
  rw [if_neg hs] at hR
  have HR : Hid (readAll [.text most] s = .ok ([.s (r.take m)], r.drop m)) := hR
  have htl : (r.take m).length ≤ 1000000 := by rw [List.length_take]; omega
  generalize r.take m = v at *
  generalize r.drop m = q at *
  clear HT2 hR
  go_wp2_with fail
  refine KC.mono ?_
  rintro e w2 ⟨rfl, k2, B2⟩
  clear KC
  go_wp2_with fail
  refine (sclone_any v w2 htl).mono ?_
  rintro e w3 ⟨rfl, b3⟩
  have kx2 := B2.blk kx1 hne
  have kx3 := kx2.below b3 kx2.lt
  have k2' : Blk w2 b #[.bool true, .slice none 0 0, .string ⟨q.toArray⟩] 185 := k2
  have k3 := k2'.below b3 k2'.lt
  have xc : w3.cell? ⟨xb, o, none⟩ = some cs[o] := by rw [kx3.cell]; simp [hj]
  have xf := kx3.frozen o
  have z3 := kx3.lt
  have kx4 := kx3.set o (.string ⟨v.toArray⟩)
  have k4 := k3.setOther ⟨xb, o, none⟩ (fun e => hne e.symm) (.string ⟨v.toArray⟩)
  have B4 : But (fun k => k = b ∨ k = xb) w (w3.setCell ⟨xb, o, none⟩ (.string ⟨v.toArray⟩)) := ((BT.trans (B2.mono (fun _ h => .inl h))).trans (But.of_below b3)).trans (But.set w3 (p := ⟨xb, o, none⟩) (.inr rfl) _)
  have HE : Hid (RdE b xb o cs t [.text most] s w (.returned (.tuple #[])) (w3.setCell ⟨xb, o, none⟩ (.string ⟨v.toArray⟩))) := ⟨B4, .inr ⟨[.s v], q, HR.out, rfl, k4, kx4, fun f hf => by simp at hf; subst hf; trivial⟩⟩
  clear p0 n0 k1' k2' HR
  go_wp2
  exact bodyPost_ret (v := .tuple #[]) (by simp [results, Tryz.results153]) rfl HE.out
theorem zero_row (zc : Array Value) (els : List Sc) (hz : zc.toList = els.map Sc.zero) (n i : Nat) (hi : i < n) : ZeroAt (madeCells zc (n * els.length)) (i * els.length) els := by
 intro j c hj
 have hjl : j < els.length := (List.getElem?_eq_some_iff.1 hj).1
 have hsz : zc.size = els.length := by rw [← Array.length_toList, hz, List.length_map]
 have h1 : i * els.length + j < n * els.length := by
  have : (i + 1) * els.length ≤ n * els.length := Nat.mul_le_mul_right _ hi
  rw [Nat.add_mul] at this
  omega
 have h2 : (i * els.length + j) % els.length = j := by
  rw [Nat.mul_comm, Nat.mul_add_mod, Nat.mod_eq_of_lt hjl]
 unfold madeCells
 rw [Array.getElem?_map, Array.getElem?_range, if_pos h1]
 simp only [Option.map_some, hsz, h2]
 have h3 : zc[j]? = some c.zero := by
  rw [← Array.getElem?_toList, hz, List.getElem?_map, hj]; rfl
 have hjz : j < zc.size := by omega
 rw [Array.getElem?_eq_getElem hjz] at h3
 rw [getElem!_pos zc j hjz]
 exact h3
structure LAt (b xb rb o : Nat) (cs : Array Value) (t : TypeId) (els : List Sc) (tr : TypeId) (n k : Nat) (rcs : Array Value) (es : List (List Fld)) (s0 s : List UInt8) (w0 w : World) : Prop where
 rd : RdAt w b s
 x : Blk w xb (cs.setIfInBounds o (.slice (some ⟨rb, 0, none⟩) n n)) t
 row : Blk w rb rcs tr
 cells : ∀ i e, es[i]? = some e → ∀ j f, e[j]? = some f → rcs[i * els.length + j]? = some f.val
 zero : ∀ i, k ≤ i → i < n → ZeroAt rcs (i * els.length) els
 lies : ∀ e ∈ es, lieAll (rb + 1) w e ∧ e.length = els.length
 rp : RepAt (readAll els) n s0 k (pvRows es) s
 but : But (fun k => k = b ∨ k = xb) w0 w
 nb : rb ≠ b
 nx : rb ≠ xb
 hb : b < rb
 hx : xb < rb
 rb0 : w0.heap.size ≤ rb
 ne : xb ≠ b
 oj : o < cs.size
 short : s.length ≤ 1099511627000
theorem LAt.at_ {b xb rb o : Nat} {cs : Array Value} {t : TypeId} {els : List Sc} {tr : TypeId} {n k : Nat} {rcs : Array Value} {es : List (List Fld)} {s0 s : List UInt8} {w0 w : World} (h : LAt b xb rb o cs t els tr n k rcs es s0 s w0 w) (hk : k < n) : At b rb (k * els.length) rcs tr els s w :=
 ⟨h.rd, h.row, h.nb, h.zero k (Nat.le_refl _) hk, h.short⟩
theorem LAt.es_len {b xb rb o : Nat} {cs : Array Value} {t : TypeId} {els : List Sc} {tr : TypeId} {n k : Nat} {rcs : Array Value} {es : List (List Fld)} {s0 s : List UInt8} {w0 w : World} (h : LAt b xb rb o cs t els tr n k rcs es s0 s w0 w) : es.length = k := by
 rw [← pvRows_len]; exact h.rp.1
theorem LAt.step {b xb rb o : Nat} {cs : Array Value} {t : TypeId} {els : List Sc} {tr : TypeId} {n k : Nat} {rcs : Array Value} {es : List (List Fld)} {s0 s : List UInt8} {w0 w w1 : World} {e : Ending} (h : LAt b xb rb o cs t els tr n k rcs es s0 s w0 w) (hk : k < n) (hp : els ≠ []) (hE : RdE b rb (k * els.length) rcs tr els s w e w1) :
  (∃ er, e = refusedE er ∧ rep (readAll els) n s0 = .error er ∧ But (fun k => k = b ∨ k = xb) w0 w1) ∨ (e = .returned (.tuple #[]) ∧ ∃ rcs1 es1 s1, LAt b xb rb o cs t els tr n (k + 1) rcs1 es1 s0 s1 w0 w1) := by
 obtain ⟨hb, hE⟩ := hE
 have hbut : But (fun k => k = b ∨ k = xb) w0 w1 := h.but.trans_new hb (fun j hj q => by
  rcases q with q | q
  ·exact .inl q
  ·have := h.rb0; omega)
 rcases hE with ⟨er, h1, h2⟩ | ⟨fs, r, h1, h2, h3, h4, h5⟩
 ·exact .inl ⟨er, h2, h.rp.fails hk h1, hbut⟩
 ·have hfl : fs.length = els.length := by rw [← pvAll_len]; exact readAll_len els s _ r h1
  have hsz := (h.zero k (Nat.le_refl _) hk).size hp
  have hel := h.es_len
  refine .inr ⟨h2, putAt rcs (k * els.length) (fs.map Fld.val), es ++ [fs], r, ⟨h3, ?_, h4, ?_, ?_, ?_, ?_, hbut, h.nb, h.nx, h.hb, h.hx, h.rb0, h.ne, h.oj, Nat.le_trans (readAll_short els s _ r h1) h.short⟩⟩
  ·exact hb.blk h.x (fun q => by
    rcases q with q | q
    ·exact h.ne q
    ·exact h.nx q.symm)
  ·intro i e hi j f hj
   by_cases hik : i < k
   ·have he : es[i]? = some e := by rwa [List.getElem?_append_left (by omega)] at hi
    have hm := h.lies e (List.mem_of_getElem? he)
    have hjl : j < els.length := by rw [← hm.2]; exact (List.getElem?_eq_some_iff.1 hj).1
    have : (i + 1) * els.length ≤ k * els.length := Nat.mul_le_mul_right _ hik
    rw [Nat.add_mul] at this
    rw [putAt_off _ _ _ _ (by omega)]
    exact h.cells i e he j f hj
   ·have hik2 : i = k := by
     have := (List.getElem?_eq_some_iff.1 hi).1
     simp at this
     omega
    subst hik2
    rw [List.getElem?_append_right (by omega), hel, Nat.sub_self] at hi
    simp at hi
    subst hi
    have hjl : j < fs.length := (List.getElem?_eq_some_iff.1 hj).1
    rw [putAt_in _ _ _ _ (by rw [List.length_map]; omega) (by rw [List.length_map]; exact hjl), List.getElem?_map, hj]
    rfl
  ·intro i hi hin j c hj
   rw [putAt_off]
   ·exact h.zero i (by omega) hin j c hj
   ·right
    have : (k + 1) * els.length ≤ i * els.length := Nat.mul_le_mul_right _ hi
    rw [Nat.add_mul] at this
    rw [List.length_map]
    omega
  ·intro e he
   have hrw : rb < w.heap.size := h.row.lt
   rcases List.mem_append.1 he with q | q
   ·have := h.lies e q
    exact ⟨this.1.hi (Hi.of_but hb fun j q => by
     rcases q with q | q
     ·have := h.hb; omega
     ·omega), this.2⟩
   ·simp at q
    subst q
    exact ⟨h5.mono hrw, hfl⟩
  ·rw [pvRows_app]
   exact h.rp.next hk h1
theorem LAt.done {b xb rb o : Nat} {cs : Array Value} {t : TypeId} {els : List Sc} {tr : TypeId} {n : Nat} {rcs : Array Value} {es : List (List Fld)} {s0 s sA : List UInt8} {w0 w : World} {most : Int} (h : LAt b xb rb o cs t els tr n n rcs es s0 s w0 w) (hn : n ≤ 1000) (hnum : numP most sA = .ok ((n : Int), s0)) :
  RdE b xb o cs t [.list most els] sA w0 (.returned (.tuple #[])) w := by
 have hel := h.es_len
 refine ⟨h.but, .inr ⟨[.l (some ⟨rb, 0, none⟩) n es], s, ?_, rfl, h.rd, ?_, ?_⟩⟩
 ·rw [readAll_one, Sc.read, hnum]
  simp only [Int.toNat_natCast, h.rp.ends]
  rfl
 ·have := h.x
  simp only [List.map_cons, List.map_nil, putAt, Fld.val, hel]
  exact this
 ·intro f hf
  simp at hf
  subst hf
  refine ⟨by omega, by unfold maxLen; omega, ?_⟩
  by_cases h0 : es = []
  ·exact .inl h0
  ·refine .inr ⟨rb, 0, rfl, h.rb0, h.row.lt, rowsLie_mk els.length (fun e he => (h.lies e he).2) fun i e hi => ?_⟩
   refine cellsLie_mk (fun j f hj => ?_) ((h.lies e (List.mem_of_getElem? hi)).1.mono (by have := h.rb0; omega))
   rw [h.row.cell, Nat.zero_add]
   exact h.cells i e hi j f hj
theorem LAt.fails {b xb o : Nat} {cs : Array Value} {t : TypeId} {els : List Sc} {n : Nat} {s0 sA : List UInt8} {w0 w : World} {most er : Int} (hb : But (fun k => k = b ∨ k = xb) w0 w) (h : rep (readAll els) n s0 = .error er) (hnum : numP most sA = .ok ((n : Int), s0)) : RdE b xb o cs t [.list most els] sA w0 (refusedE er) w :=
 ⟨hb, .inl ⟨er, by rw [readAll_one, Sc.read, hnum]; simp only [Int.toNat_natCast, h], rfl⟩⟩
theorem LAt.start {b xb o : Nat} {cs : Array Value} {t tr : TypeId} {els : List Sc} {n : Nat} {s0 : List UInt8} {w0 w1 : World} (zc : Array Value) (hz : zc.toList = els.map Sc.zero) (hrd : RdAt w1 b s0) (hx : Blk w1 xb cs t) (hne : xb ≠ b) (hoj : o < cs.size) (hs : s0.length ≤ 1099511627000) (hb : But (fun k => k = b ∨ k = xb) w0 w1) :
  LAt b xb w1.heap.size o cs t els tr n 0 (madeCells zc (n * els.length)) [] s0 s0 w0 ((w1.setCell ⟨xb, o, none⟩ (.slice (some ⟨w1.heap.size, 0, none⟩) n n)).alloc (.cells (madeCells zc (n * els.length)) tr)) := by
 have kr := Blk.new (w1.setCell ⟨xb, o, none⟩ (.slice (some ⟨w1.heap.size, 0, none⟩) n n)) (madeCells zc (n * els.length)) tr
 rw [World.size_setCell] at kr
 have zb : b < w1.heap.size := Blk.lt hrd
 have zx := hx.lt
 refine ⟨?_, (hx.set o _).alloc _, kr, ?_, fun i _ hi => zero_row zc els hz n i hi, ?_, RepAt.zero _ _ _, ?_, by omega, by omega, zb, zx, hb.size, hne, hoj, hs⟩
 ·exact Blk.alloc (Blk.setOther (show Blk w1 b #[.bool true, .slice none 0 0, .string ⟨s0.toArray⟩] 185 from hrd) _ (fun e => hne e.symm) _) _
 ·intro i e hi
  simp at hi
 ·intro e he
  cases he
 ·exact (hb.trans (But.set _ (p := ⟨xb, o, none⟩) (.inr rfl) _)).trans (But.of_below ((Below.refl _ _).alloc (Nat.le_refl _) _))
end Go.Proofs.YtackcbpabjhmpaaGreat
