import Derived.Test.YtackcbpabjhmpaaGreatM39
import Derived.Great.BuildSlice
namespace Go.Proofs.YtackcbpabjhmpaaGreat
open Go.RowKit
set_option linter.unusedVariables false
set_option linter.unusedSimpArgs false
structure HeadOps (lt : TypeId) (ts : Array TypeId) (a1 a2 a3 a4 a5 a6 b1 b2 b3 c1 c2 c3 c4 d1 d2 d3 d4 d5 : Oper) : Prop where
 a1 : Is a1 (some 10) (.move (.tmp 1))
 a2 : Is a2 (some 11) (.nilCheck (.tmp 10))
 a3 : Is a3 (some 12) (.load lt (.tmp 11))
 a4 : Is a4 (some 13) (.call { callee := .builtin .len, args := #[.tmp 12], argTypes := #[lt] })
 a5 : Is a5 (some 8) (.alloc 3)
 a6 : Is a6 none (.store 3 (.tmp 8) (.tmp 13))
 b1 : Is b1 (some 14) (.move (.tmp 0))
 b2 : Is b2 (some 15) (.move (.tmp 2))
 b3 : Is b3 (some 16) (.call { callee := .value (.func 119), args := #[.tmp 14, .tmp 8, .tmp 15], argTypes := ts })
 c1 : Is c1 (some 17) (.move (.tmp 0))
 c2 : Is c2 (some 18) (.nilCheck (.tmp 17))
 c3 : Is c3 (some 19) (.fieldAddr 185 (.tmp 18) 0)
 c4 : Is c4 (some 20) (.load 4 (.tmp 19))
 d1 : Is d1 (some 21) (.move (.tmp 1))
 d2 : Is d2 (some 22) (.load 3 (.tmp 8))
 d3 : Is d3 (some 23) (.makeSlice lt (.tmp 22) (.tmp 22))
 d4 : Is d4 (some 24) (.nilCheck (.tmp 21))
 d5 : Is d5 none (.store lt (.tmp 24) (.tmp 23))
theorem lx_head {lt ety : TypeId} {ts : Array TypeId} {id0 id1 id2 : Nat} {a1 a2 a3 a4 a5 a6 b1 b2 b3 c1 c2 c3 c4 d1 d2 d3 d4 d5 : Oper} {X rest : Code} {one b xb xo n lc : Nat} {la : Option Addr} {most : Int} {A : Act} {w : World} {Q : Exit → Act → World → Prop} {RB : World → Ending → World → Prop} (rdg : Bool)
  (O : HeadOps lt ts a1 a2 a3 a4 a5 a6 b1 b2 b3 c1 c2 c3 c4 d1 d2 d3 d4 d5) (hu : Tryz.prog.underlying lt = some (.slice ety))
  (F : Fr 38 [(0, ptr b), (1, .pointer (some ⟨xb, xo, none⟩)), (2, .int .i64 most), (3, .func (.func one) #[] #[])] A) (hx : w.cell? ⟨xb, xo, none⟩ = some (.slice la n lc))
  (hB : ∀ w1, Below w.heap.size w w1 → Blk w1 w.heap.size #[.int .i64 n] 3 → Calls Tryz.prog 119 #[ptr b, ptr w.heap.size, .int .i64 most] w1 (RB w1))
  (K : ∀ w1 e w2, Below w.heap.size w w1 → Blk w1 w.heap.size #[.int .i64 n] 3 → RB w1 e w2 → (∃ ch, e = .panicked ch ∧ ∀ A' : Act, A'.defers = [] → Q (.panic ch) A' w2) ∨
   (e = .returned (.tuple #[]) ∧ w2.cell? ⟨b, 0, none⟩ = some (.bool rdg) ∧ ∀ A', Fr 38 (lfr b xb xo one w.heap.size) A' → (if rdg = true then X else .skip).wp Tryz.prog (fun e a w => Exit.then (fun a w => rest.wp Tryz.prog Q a w) Q e a w) A' w2)) :
  (Code.seq (.region id0 #[a1, a2, a3, a4, a5, a6] false) (.seq (.region id1 #[b1, b2, b3] false) (.seq (.seq (.region id2 #[c1, c2, c3, c4] false) (.cond (.tmp 20) X .skip)) rest))).wp Tryz.prog Q A w := by
 obtain ⟨d4', hu4, hr4⟩ := cellT_out (show cellT Tryz.prog 4 = true by kernel_rfl)
 refine wp_seq (wp_region_list ?_)
 show wpList _ _ _ [a1, a2, a3, a4, a5, a6] _ _
 refine ol_move O.a1.2.2 (.inl O.a1.2.1) ?_
 rw [O.a1.1, F.get (by simp : (1, Value.pointer (some ⟨xb, xo, none⟩)) ∈ _)]
 have F1 := F.set (i := 10) (v := .pointer (some ⟨xb, xo, none⟩)) (by omega) rfl
 generalize A.put (some 10) (.pointer (some ⟨xb, xo, none⟩)) = A1 at *
 refine ol_nil O.a2.2.2 O.a2.2.1 (F1.get (by simp : (10, Value.pointer (some ⟨xb, xo, none⟩)) ∈ _)) ?_
 rw [O.a2.1]
 have F2 := F1.set (i := 11) (v := .pointer (some ⟨xb, xo, none⟩)) (by omega) rfl
 generalize A1.put (some 11) (.pointer (some ⟨xb, xo, none⟩)) = A2 at *
 refine ol_cell O.a3.2.2 O.a3.2.1 (F2.get (by simp : (11, Value.pointer (some ⟨xb, xo, none⟩)) ∈ _)) hx hu rfl ?_
 rw [O.a3.1]
 have F3 := F2.set (i := 12) (v := .slice la n lc) (by omega) rfl
 generalize A2.put (some 12) (.slice la n lc) = A3 at *
 refine ol_len O.a4.2.2 O.a4.2.1 (F3.get (by simp : (12, Value.slice la n lc) ∈ _)) hu ?_
 rw [O.a4.1]
 have F4 := F3.set (i := 13) (v := .int .i64 (n : Int)) (by omega) rfl
 generalize A3.put (some 13) (.int .i64 (n : Int)) = A4 at *
 refine ol_alloc O.a5.2.2 O.a5.2.1 (z := .int .i64 0) (n := 1) (by kernel_rfl) ?_
 rw [O.a5.1]
 have F5 := F4.set (i := 8) (v := ptr w.heap.size) (by omega) rfl
 show wpList _ _ _ _ (A4.put (some 8) (ptr w.heap.size)) (w.alloc (.cells #[.int .i64 0] 3))
 generalize A4.put (some 8) (ptr w.heap.size) = A5 at *
 have kn := Blk.new w #[.int .i64 0] 3
 have bA : Below w.heap.size w (w.alloc (.cells #[.int .i64 0] 3)) := (Below.refl _ _).alloc (Nat.le_refl _) _
 generalize w.alloc (.cells #[.int .i64 0] 3) = wa at *
 refine ol_store O.a6.2.2 O.a6.1 O.a6.2.1 (F5.get (by simp : (8, ptr w.heap.size) ∈ _)) (F5.get (by simp : (13, Value.int .i64 (n : Int)) ∈ _)) (kn.thereAt 0 _ (by show 0 + 1 ≤ 1; omega)) (by kernel_rfl) (fun u hu => by simp [Value.cells] at hu; subst hu; rfl) ?_
 have kn1 : Blk (wa.setCell ⟨w.heap.size, 0, none⟩ (.int .i64 n)) w.heap.size #[.int .i64 n] 3 := kn.set 0 _
 have b1' : Below w.heap.size w (wa.setCell ⟨w.heap.size, 0, none⟩ (.int .i64 n)) := bA.setCell (Nat.le_refl _) _
 show wpList _ _ _ _ _ (wa.setCell ⟨w.heap.size, 0, none⟩ (.int .i64 n))
 generalize wa.setCell ⟨w.heap.size, 0, none⟩ (.int .i64 n) = w1 at *
 refine wpList_nil ?_
 show Code.wp _ _ _ _ _
 refine wp_seq (wp_region_list ?_)
 show wpList _ _ _ [b1, b2, b3] _ _
 refine ol_move O.b1.2.2 (.inl O.b1.2.1) ?_
 rw [O.b1.1, F5.get (by simp : (0, ptr b) ∈ _)]
 have F6 := F5.set (i := 14) (v := ptr b) (by omega) rfl
 generalize A5.put (some 14) (ptr b) = A6 at *
 refine ol_move O.b2.2.2 (.inl O.b2.2.1) ?_
 rw [O.b2.1, F6.get (by simp : (2, Value.int .i64 most) ∈ _)]
 have F7 := F6.set (i := 15) (v := .int .i64 most) (by omega) rfl
 generalize A6.put (some 15) (.int .i64 most) = A7 at *
 refine ol_callv O.b3.2.2 (f := 119) (by kernel_rfl) O.b3.2.1 rfl (vs := #[ptr b, ptr w.heap.size, .int .i64 most]) (by rw [List.map_toArray]; simp only [List.map_cons, List.map_nil]; rw [F7.get (by simp : (14, ptr b) ∈ _), F7.get (by simp : (8, ptr w.heap.size) ∈ _), F7.get (by simp : (15, Value.int .i64 most) ∈ _)]) (hB w1 b1' kn1) ?_
 intro e w2 hR
 rcases K w1 e w2 b1' kn1 hR with ⟨ch, rfl, hq⟩ | ⟨rfl, cb, hq⟩
 ·exact .inr ⟨ch, rfl, hq _ F7.2.1⟩
 refine .inl ⟨_, rfl, ?_⟩
 rw [O.b3.1]
 have F8 := F7.set (i := 16) (v := .tuple #[]) (by omega) rfl
 generalize A7.put (some 16) (.tuple #[]) = A8 at *
 refine wpList_nil ?_
 show Code.wp _ _ _ _ _
 refine wp_seq (wp_seq (wp_region_list ?_))
 show wpList _ _ _ [c1, c2, c3, c4] _ _
 refine ol_move O.c1.2.2 (.inl O.c1.2.1) ?_
 rw [O.c1.1, F8.get (by simp : (0, ptr b) ∈ _)]
 have F9 := F8.set (i := 17) (v := ptr b) (by omega) rfl
 generalize A8.put (some 17) (ptr b) = A9 at *
 refine ol_nil O.c2.2.2 O.c2.2.1 (F9.get (by simp : (17, ptr b) ∈ _)) ?_
 rw [O.c2.1]
 have G1 := F9.set (i := 18) (v := ptr b) (by omega) rfl
 show wpList _ _ _ _ (A9.put (some 18) (ptr b)) _
 generalize A9.put (some 18) (ptr b) = C1 at *
 refine ol_fld O.c3.2.2 O.c3.2.1 (G1.get (by simp : (18, ptr b) ∈ _)) (n := 0) (by kernel_rfl) ?_
 rw [O.c3.1]
 have G2 := G1.set (i := 19) (v := ptr b) (by omega) rfl
 show wpList _ _ _ _ (C1.put (some 19) (ptr b)) _
 generalize C1.put (some 19) (ptr b) = C2 at *
 refine ol_cell O.c4.2.2 O.c4.2.1 (G2.get (by simp : (19, ptr b) ∈ _)) cb hu4 hr4 ?_
 rw [O.c4.1]
 have G3 := G2.set (i := 20) (v := .bool rdg) (by omega) rfl
 generalize C2.put (some 20) (.bool rdg) = C3 at *
 refine wpList_nil ?_
 show Code.wp _ _ _ _ _
 have q20 := G3.get (by simp : (20, Value.bool rdg) ∈ _)
 have G4 : Fr 38 (lfr b xb xo one w.heap.size) C3 := G3.sub fun p hp => by
  simp only [lfr, List.mem_cons, List.not_mem_nil, or_false] at hp ⊢
  rcases hp with rfl | rfl | rfl | rfl <;> simp
 have h := hq C3 G4
 cases rdg with
 | false => exact wp_cond_false q20 h
 | true => exact wp_cond_true q20 h
theorem run_fldo {P : Program} {w : World} {s k n b o : Nat} (h : fldOff P s k = some n) : (Instr.fieldAt s (.pointer (some ⟨b, o, none⟩)) k).run P w = .ok (.pointer (some ⟨b, o + n, none⟩)) w := by
 unfold fldOff at h
 cases hu : P.underlying s with
 | none => rw [hu] at h; cases h
 | some d =>
  rw [hu] at h
  cases d with
  | struct fs =>
   simp only at h
   cases hf : fs[k]? with
   | none => rw [hf] at h; cases h
   | some f =>
    rw [hf] at h
    simp only at h
    cases hi : P.info? f.type with
    | none => rw [hi] at h; cases h
    | some i =>
     rw [hi] at h
     simp only at h
     split at h
     ·cases h
     ·rename_i hz
      injection h with h
      subst h
      simp [Instr.fieldAt, run_underlying hu, hf, Instr.sureAddr, fieldPlace, sizeOf, typeInfo, hi, hz, Addr.add_lit]
  | _ => cases h
abbrev Shp := Option Nat × Op × Option (Nat × Bool)
def shp (o : Oper) : Shp := (o.dst, o.op, o.guard)
theorem shp_is {o : Oper} {d : Option Nat} {p : Op} (h : shp o = (d, p, none)) : Is o d p := by
 injection h with h1 h2
 injection h2 with h2 h3
 exact ⟨h1, h2, h3⟩
theorem shp_at {ops : Array Oper} {pos : Nat} {x : Shp} {r : List Shp} (h : (ops.toList.map shp).drop pos = x :: r) : ∃ o, ops[pos]? = some o ∧ shp o = x ∧ (ops.toList.map shp).drop (pos + 1) = r := by
 have h1 : (ops.toList.map shp)[pos]? = some x := by rw [← List.head?_drop, h]; rfl
 have h2 := congrArg List.tail h
 rw [List.tail_drop] at h2
 rw [List.getElem?_map] at h1
 cases ho : ops.toList[pos]? with
 | none => rw [ho] at h1; cases h1
 | some o => exact ⟨o, by simpa using ho, by rw [ho] at h1; simpa using h1, h2⟩
def lst (n : Nat) : Nat → Array Bool
 | 0 => Array.replicate n false
 | m + 1 => (lst n m).setIfInBounds m true
def freeAt (ops : Array Oper) (m : Nat) : Bool := Region.free .any ops (lst ops.size m) m && (Region.ready .any ops (lst ops.size m)).contains m
def manyChk (ops : Array Oper) : Bool := Region.noSelect ops && ((List.range (ops.size - 2)).all (freeAt ops)) && (Region.ready .any ops (lst ops.size (ops.size - 2)) == [ops.size - 2]) && (Region.ready .any ops (lst ops.size (ops.size - 1)) == [ops.size - 1]) && (Region.ready .any ops (lst ops.size ops.size) == [])
theorem any_one {P : Program} {ops : Array Oper} {Q : Exit → Act → World → Prop} {m fuel d : Nat} {o : Oper} {v : Value} {a : Act} {w : World} (ho : ops[m]? = some o) (hI : o.dst = some d ∧ o.guard = none) (hs : Region.noSelect ops = true) (hf : freeAt ops m = true) (hQ : ∀ c d v a w, Q (.panic c) (a.put (some d) v) w → Q (.panic c) a w) (hr : ∀ w, (execOp a.eval o).run P w = .ok (.value v) w)
  (h : wpAny P .any ops Q fuel (lst ops.size (m + 1)) (a.put (some d) v) w) : wpAny P .any ops Q (fuel + 1) (lst ops.size m) a w := by
 unfold freeAt at hf
 rw [Bool.and_eq_true] at hf
 refine wpAny_take ho hs hf.1 hf.2 (v := v) (fun c a w => by rw [hI.1]; exact hQ c d v a w) (.inl ⟨by unfold Region.wanted; rw [hI.2], hr⟩) ?_
 rw [hI.1]
 exact h
def trips (s : Nat) : Nat → Nat → Nat → List Shp
 | _, _, 0 => []
 | k0, i, j + 1 => (some i, .move (.tmp 1), none) :: (some (i + 1), .nilCheck (.tmp i), none) :: (some (i + 2), .fieldAddr s (.tmp (i + 1)) k0, none) :: trips s (k0 + 1) (i + 3) j
def adrs (xb : Nat) : Nat → Nat → Nat → List (Nat × Value)
 | _, _, 0 => []
 | i, o, j + 1 => adrs xb (i + 3) (o + 1) j ++ [(i + 2, .pointer (some ⟨xb, o, none⟩))]
theorem adrs_mem {xb : Nat} : ∀ (j i o q : Nat), q < j → (i + 2 + 3 * q, Value.pointer (some ⟨xb, o + q, none⟩)) ∈ adrs xb i o j
 | 0, _, _, _, h => by omega
 | j + 1, i, o, 0, h => by simp [adrs]
 | j + 1, i, o, q + 1, h => by
  have := adrs_mem (xb := xb) j (i + 3) (o + 1) q (by omega)
  rw [show i + 3 + 2 + 3 * q = i + 2 + 3 * (q + 1) by omega, show o + 1 + q = o + (q + 1) by omega] at this
  exact List.mem_append_left _ this
def ltAll (i : Nat) (L : List (Nat × Value)) : Bool := L.all fun p => decide (p.1 < i)
theorem free_lt {i j : Nat} {L : List (Nat × Value)} (h : ltAll i L = true) (hj : i ≤ j) : freeOf [j] L = true := by
 unfold freeOf
 refine List.all_eq_true.2 fun p hp => ?_
 have := List.all_eq_true.1 h p hp
 simp at this
 simp
 omega
theorem lt_cons {i j k : Nat} {v : Value} {L : List (Nat × Value)} (h : ltAll i L = true) (hi : i ≤ j) (hk : k < j) : ltAll j ((k, v) :: L) = true := by
 unfold ltAll at *
 refine List.all_eq_true.2 fun p hp => ?_
 rcases List.mem_cons.1 hp with rfl | hp
 ·simpa using hk
 ·have := List.all_eq_true.1 h p hp
  simp at this
  simp
  omega
theorem any_trips {N s xb off : Nat} {ops : Array Oper} {Q : Exit → Act → World → Prop} {w : World} {tail : List Shp} (hs : Region.noSelect ops = true) (hf : ∀ m, m < ops.size - 2 → freeAt ops m = true) (hQ : ∀ c d v a w, Q (.panic c) (a.put (some d) v) w → Q (.panic c) a w) (f0 : Nat) :
  ∀ (j k0 i pos o1 : Nat) (L : List (Nat × Value)) (A : Act), (ops.toList.map shp).drop pos = trips s k0 i j ++ tail → pos + 3 * j ≤ ops.size - 2 → Fr N L A → ltAll i L = true → i + 3 * j ≤ N → (1, Value.pointer (some ⟨xb, off, none⟩)) ∈ L → (∀ q, q < j → fldOff Tryz.prog s (k0 + q) = some (o1 + q)) →
   (∀ A', Fr N (adrs xb i (off + o1) j ++ L) A' → (ops.toList.map shp).drop (pos + 3 * j) = tail → wpAny Tryz.prog .any ops Q f0 (lst ops.size (pos + 3 * j)) A' w) → wpAny Tryz.prog .any ops Q (f0 + 3 * j) (lst ops.size pos) A w
 | 0, k0, i, pos, o1, L, A, h, hp, F, hl, hN, m1, ho, K => K A F h
 | j + 1, k0, i, pos, o1, L, A, h, hp, F, hl, hN, m1, ho, K => by
  obtain ⟨p1, e1, s1, h1⟩ := shp_at h
  obtain ⟨p2, e2, s2, h2⟩ := shp_at h1
  obtain ⟨p3, e3, s3, h3⟩ := shp_at h2
  have i1 := shp_is s1
  have i2 := shp_is s2
  have i3 := shp_is s3
  refine any_one e1 ⟨i1.1, i1.2.2⟩ hs (hf _ (by omega)) hQ (v := .pointer (some ⟨xb, off, none⟩)) (fun w => by unfold execOp; rw [i1.2.1]; simp only [F.get m1]; rfl) ?_
  have F1 := F.set (i := i) (v := .pointer (some ⟨xb, off, none⟩)) (by omega) (free_lt hl (Nat.le_refl _))
  generalize A.put (some i) (.pointer (some ⟨xb, off, none⟩)) = A1 at *
  refine any_one e2 ⟨i2.1, i2.2.2⟩ hs (hf _ (by omega)) hQ (v := .pointer (some ⟨xb, off, none⟩)) (fun w => by unfold execOp; rw [i2.2.1]; simp only [F1.get (by simp : (i, Value.pointer (some ⟨xb, off, none⟩)) ∈ _)]; rfl) ?_
  have F2 := F1.set (i := i + 1) (v := .pointer (some ⟨xb, off, none⟩)) (by omega) (free_lt (lt_cons hl (Nat.le_succ _) (Nat.lt_succ_self _)) (Nat.le_refl _))
  generalize A1.put (some (i + 1)) (.pointer (some ⟨xb, off, none⟩)) = A2 at *
  have ho0 := ho 0 (by omega)
  rw [Nat.add_zero, Nat.add_zero] at ho0
  refine any_one e3 ⟨i3.1, i3.2.2⟩ hs (hf _ (by omega)) hQ (v := .pointer (some ⟨xb, off + o1, none⟩)) (fun w => by unfold execOp; rw [i3.2.1]; simp only [F2.get (by simp : (i + 1, Value.pointer (some ⟨xb, off, none⟩)) ∈ _)]; simp [Sem.run_bind, run_fldo ho0]) ?_
  have F3 : Fr N L A2 := F2.tl.tl
  have F4 := F3.set (i := i + 2) (v := .pointer (some ⟨xb, off + o1, none⟩)) (by omega) (free_lt hl (by omega))
  generalize A2.put (some (i + 2)) (.pointer (some ⟨xb, off + o1, none⟩)) = A3 at *
  have := any_trips hs hf hQ f0 j (k0 + 1) (i + 3) (pos + 3) (o1 + 1) _ A3 h3 (by omega) F4 (lt_cons hl (by omega) (by omega)) (by omega) (List.mem_cons_of_mem _ m1) (fun q hq => by
   have := ho (q + 1) (by omega)
   rw [show k0 + (q + 1) = k0 + 1 + q by omega, show o1 + (q + 1) = o1 + 1 + q by omega] at this
   exact this) (fun A' F' h' => by
   have := K A' (by
    rw [show off + (o1 + 1) = off + o1 + 1 by omega] at F'
    simp only [adrs, List.append_assoc, List.singleton_append]
    exact F') (by rw [show pos + 3 * (j + 1) = pos + 3 + 3 * j by omega]; exact h')
   rw [show pos + 3 * (j + 1) = pos + 3 + 3 * j by omega] at this
   exact this)
  exact this
def ptrsA (xb o k : Nat) : Array Value := ((List.range k).map fun j => Value.pointer (some ⟨xb, o + j, none⟩)).toArray
theorem fill_ptrs (xb o : Nat) : ∀ k, k ≤ 8 → Instr.fill (fun i => some (i * 1, 1)) ((Array.range (k * 1)).map ((#[Value.pointer none] : Array Value)[· % 1]!)) ((List.range k).map fun j => (j, Value.pointer (some ⟨xb, o + j, none⟩))) = some (ptrsA xb o k)
 | 0, _ => by kernel_rfl
 | 1, _ => by kernel_rfl
 | 2, _ => by kernel_rfl
 | 3, _ => by kernel_rfl
 | 4, _ => by kernel_rfl
 | 5, _ => by kernel_rfl
 | 6, _ => by kernel_rfl
 | 7, _ => by kernel_rfl
 | 8, _ => by kernel_rfl
 | n + 9, h => by omega
theorem run_ptrs {P : Program} {w : World} {t e : TypeId} (xb o k : Nat) (hk : 0 < k ∧ k ≤ 8) (hu : P.underlying t = some (.slice e)) (hi : (P.info? e).map (fun i => (i.zero, i.size)) = some (some (.pointer none), 1)) :
  (Instr.buildSlice t k ((List.range k).map fun j => (j, Value.pointer (some ⟨xb, o + j, none⟩))).toArray).run P w = .ok (.slice (some ⟨w.heap.size, 0, none⟩) k k) (w.alloc (.cells (ptrsA xb o k) e)) := by
 cases hq : P.info? e with
 | none => rw [hq] at hi; cases hi
 | some i =>
  rw [hq] at hi
  simp only [Option.map_some, Option.some.injEq, Prod.mk.injEq] at hi
  have h2 : ¬ (k * 1 > 2 ^ 24) := by omega
  have h3 : ¬ (k * 1 = 0) := by omega
  have hf := fill_ptrs xb o k hk.2
  simp only [Instr.buildSlice, Sem.run_bind, run_underlying hu, Result.andThen_ok, sizeOf, typeInfo, zeroValue, run_program, hq, hi.1, hi.2, Sem.run_pure, if_neg h2, if_neg h3]
  have hc : (Value.pointer none).cells = #[Value.pointer none] := rfl
  rw [hc]
  simp only [List.size_toArray, List.length_cons, List.length_nil, Nat.zero_add]
  rw [hf]
  simp [newRow]
def manyShape (i s k0 k : Nat) (bty : TypeId) (f : FuncId) (ts : Array TypeId) : List Shp :=
 (some i, .move (.tmp 0), none) :: (trips s k0 (i + 1) k ++ [(some (i + 1 + 3 * k), .buildSlice bty k (((List.range k).map fun j => (j, Operand.tmp (i + 3 + 3 * j))).toArray), none), (some (i + 2 + 3 * k), .call { callee := .value (.func f), args := #[.tmp i, .tmp (i + 1 + 3 * k)], argTypes := ts }, none)])
theorem st_many {N id i s k0 k b xb off o1 : Nat} {f : FuncId} {bty ety : TypeId} {ops : Array Oper} {ts : Array TypeId} {L : List (Nat × Value)} {A : Act} {w : World} {Q : Exit → Act → World → Prop} {R : World → Ending → World → Prop}
  (hsh : ops.toList.map shp = manyShape i s k0 k bty f ts) (hck : manyChk ops = true) (hoff : ((List.range k).all fun j => fldOff Tryz.prog s (k0 + j) == some (o1 + j)) = true) (hu : Tryz.prog.underlying bty = some (.slice ety)) (hi : (Tryz.prog.info? ety).map (fun i => (i.zero, i.size)) = some (some (.pointer none), 1)) (hE : enters Tryz.prog f = true) (hk : 0 < k ∧ k ≤ 8) (hmx : Tryz.prog.follows .mixedOrders = true)
  (hfr : (ltAll i L && decide (i + 3 + 3 * k ≤ N)) = true) (hQ : ∀ c d v a w, Q (.panic c) (a.put (some d) v) w → Q (.panic c) a w) (m0 : (0, ptr b) ∈ L) (m1 : (1, Value.pointer (some ⟨xb, off, none⟩)) ∈ L) (F : Fr N L A)
  (hC : ∀ w1, Below w.heap.size w w1 → Blk w1 w.heap.size (ptrsA xb (off + o1) k) ety → Calls Tryz.prog f #[ptr b, .slice (some ⟨w.heap.size, 0, none⟩) k k] w1 (R w1))
  (K : ∀ w1 e w2, Below w.heap.size w w1 → R w1 e w2 → (e = .returned (.tuple #[]) ∧ ∀ A', Fr N L A' → Q .normal A' w2) ∨ ∃ ch, e = .panicked ch ∧ ∀ A' : Act, A'.defers = [] → Q (.panic ch) A' w2) :
  (Code.region id ops true).wp Tryz.prog Q A w := by
 rw [Bool.and_eq_true, decide_eq_true_eq] at hfr
 obtain ⟨hl, hN⟩ := hfr
 unfold manyChk at hck
 simp only [Bool.and_eq_true, beq_iff_eq, List.all_eq_true, List.mem_range] at hck
 obtain ⟨⟨⟨⟨hs, hf⟩, r1⟩, r2⟩, r3⟩ := hck
 have hsz : ops.size = 3 * k + 3 := by
  have := congrArg List.length hsh
  have ht : ∀ (j k0 i : Nat), (trips s k0 i j).length = 3 * j := fun j => by
   induction j with
   | zero => intro k0 i; rfl
   | succ j ih => intro k0 i; simp [trips, ih]; omega
  simp [manyShape, ht] at this
  omega
 refine wp_region_any hmx ?_
 change wpAny _ _ _ _ _ _ _ (World.drew _)
 have bd : Below w.heap.size w w.drew := (Below.refl _ _).drew
 have hds : w.drew.heap.size = w.heap.size := rfl
 generalize w.drew = wd at *
 have h0 : (ops.toList.map shp).drop 0 = manyShape i s k0 k bty f ts := hsh
 obtain ⟨p0, e0, s0, h1⟩ := shp_at h0
 have i0 := shp_is s0
 show wpAny _ _ _ _ ops.size (lst ops.size 0) _ _
 have go : wpAny Tryz.prog .any ops Q (2 + 3 * k + 1) (lst ops.size 0) A wd := by
  refine any_one e0 ⟨i0.1, i0.2.2⟩ hs (hf _ (by omega)) hQ (v := ptr b) (fun w => by unfold execOp; rw [i0.2.1]; simp only [F.get m0]; rfl) ?_
  have F1 := F.set (i := i) (v := ptr b) (by omega) (free_lt hl (Nat.le_refl _))
  generalize A.put (some i) (ptr b) = A1 at *
  refine any_trips hs hf hQ 2 k k0 (i + 1) 1 o1 _ A1 h1 (by omega) F1 (lt_cons hl (Nat.le_succ _) (Nat.lt_succ_self _)) (by omega) (List.mem_cons_of_mem _ m1) (fun q hq => by simpa using List.all_eq_true.1 hoff q (List.mem_range.2 hq)) ?_
  intro A2 F2 h2
  obtain ⟨p1, e1, s1, h3⟩ := shp_at h2
  obtain ⟨p2, e2, s2, h4⟩ := shp_at h3
  have i1 := shp_is s1
  have i2 := shp_is s2
  rw [show 1 + 3 * k = ops.size - 2 by omega] at e1 e2 ⊢
  refine wpAny_ready r1 (by simp) (AllReady.cons e1 (fun KK hK => ?_) AllReady.nil)
  rw [if_pos (by unfold Region.wanted; rw [i1.2.2])]
  have hx : (((List.range k).map fun j => (j, Operand.tmp (i + 3 + 3 * j))).toArray.map fun q => (q.1, A2.eval q.2)) = ((List.range k).map fun j => (j, Value.pointer (some ⟨xb, off + o1 + j, none⟩))).toArray := by
   rw [List.map_toArray, List.map_map]
   refine congrArg List.toArray (List.map_congr_left fun j hj => ?_)
   have := F2.get (List.mem_append_left _ (adrs_mem (xb := xb) k (i + 1) (off + o1) j (List.mem_range.1 hj)))
   rw [show i + 1 + 2 + 3 * j = i + 3 + 3 * j by omega] at this
   show (j, A2.eval (.tmp (i + 3 + 3 * j))) = _
   rw [this]
  unfold Oper.wp
  have hrun : (execOp A2.eval p1).run Tryz.prog wd = .ok (.value (.slice (some ⟨wd.heap.size, 0, none⟩) k k)) (wd.alloc (.cells (ptrsA xb (off + o1) k) ety)) := by
   unfold execOp
   rw [i1.2.1]
   simp only
   have := run_ptrs (P := Tryz.prog) (w := wd) xb (off + o1) k hk hu hi
   rw [← hx] at this
   rw [Sem.run_bind]
   erw [this]
   rfl
  rw [hrun]
  show KK (A2.put p1.dst (.slice (some ⟨wd.heap.size, 0, none⟩) k k)) _
  rw [i1.1, hds]
  refine hK _ _ ?_
  have F3 := F2.set (i := i + 1 + 3 * k) (v := .slice (some ⟨w.heap.size, 0, none⟩) k k) (by omega) (by
   have : ∀ (j i o : Nat), ltAll (i + 3 * j) (adrs xb i o j) = true := fun j => by
    induction j with
    | zero => intro i o; rfl
    | succ j ih =>
     intro i o
     simp only [adrs, ltAll, List.all_append, Bool.and_eq_true]
     refine ⟨?_, by simp; omega⟩
     have := ih (i + 3) (o + 1)
     rw [show i + 3 + 3 * j = i + 3 * (j + 1) by omega] at this
     exact this
   refine free_lt (i := i + 1 + 3 * k) ?_ (Nat.le_refl _)
   unfold ltAll
   rw [List.all_append, Bool.and_eq_true]
   exact ⟨this k (i + 1) (off + o1), lt_cons hl (by omega) (by omega)⟩)
  generalize A2.put (some (i + 1 + 3 * k)) (.slice (some ⟨w.heap.size, 0, none⟩) k k) = A3 at *
  have bA : Below w.heap.size w (wd.alloc (.cells (ptrsA xb (off + o1) k) ety)) := bd.alloc (by omega) _
  have kb := Blk.new wd (ptrsA xb (off + o1) k) ety
  rw [hds] at kb
  generalize wd.alloc (.cells (ptrsA xb (off + o1) k) ety) = w1 at *
  have hl1 : (lst ops.size (ops.size - 2)).setIfInBounds (ops.size - 2) true = lst ops.size (ops.size - 1) := by
   rw [show ops.size - 1 = (ops.size - 2) + 1 by omega]
   rfl
  rw [hl1]
  rw [show ops.size - 2 + 1 = ops.size - 1 by omega] at e2
  refine wpAny_ready r2 (by simp) (AllReady.cons e2 (fun KK hK => ?_) AllReady.nil)
  rw [if_pos (by unfold Region.wanted; rw [i2.2.2])]
  unfold Oper.wp
  have g0 := F3.get (i := i) (v := ptr b) (by simp)
  have g1 := F3.get (i := i + 1 + 3 * k) (v := .slice (some ⟨w.heap.size, 0, none⟩) k k) (by simp)
  rw [run_callv hE i2.2.1 rfl, List.map_toArray]
  simp only [List.map_cons, List.map_nil]
  rw [g0, g1, Oper.upon_enter]
  refine (hC w1 bA kb).mono ?_
  intro e w2 hR
  rcases K w1 e w2 bA hR with ⟨rfl, hn⟩ | ⟨ch, rfl, hp⟩
  ·refine hK _ _ ?_
   rw [i2.1]
   have F4 : Fr N L A3 := F3.sub fun p hp => by simp [hp]
   have F5 := (F4.set (i := i + 2 + 3 * k) (v := .tuple #[]) (by omega) (free_lt hl (by omega))).tl
   refine wpAny_done ?_ (hn _ F5) _
   have hl2 : (lst ops.size (ops.size - 1)).setIfInBounds (ops.size - 1) true = lst ops.size ops.size := by
    have : lst ops.size (ops.size - 1 + 1) = lst ops.size ops.size := by rw [show ops.size - 1 + 1 = ops.size by omega]
    rw [← this]
    rfl
   rw [hl2]
   exact r3
  ·exact hp _ F3.2.1
 rw [show 2 + 3 * k + 1 = ops.size by omega] at go
 exact go
end Go.Proofs.YtackcbpabjhmpaaGreat
