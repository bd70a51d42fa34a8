/- Walks by lemmas: numbers and texts; variables that lay there before; results. -/
import Derived.Test.YtgpjlocgkdlnlaaDoorM06
namespace Go.Proofs.YtgpjlocgkdlnlaaDoor
open Go.RowKit
set_option linter.unusedVariables false
set_option linter.unusedSimpArgs false

theorem ext_both (s : Key) (l h : Nat) (hl : l ≤ h) (hh : h ≤ s.length) : (str s).extract l h = str ((s.take h).drop l) := by
  apply ByteArray.ext
  rw [ByteArray.data_extract]
  apply Array.ext'
  simp [str, List.extract_eq_take_drop, List.drop_take]
section
variable {P : Program} {ops : Array Oper} {Q : Exit → Act → World → Prop} {a : Act} {w w0 : World} {rest : List Oper} {o : Oper} {N : Nat} {L : List (Nat × Value)}
variable {i t u : Nat} {x y : Operand} {k : IntKind} {m n : Int}
theorem sw_lss (F : Fm N L a) (h : Is o (some i) (.binOp .lss t x y u)) (h1 : opv L x = some (.int k m)) (h2 : opv L y = some (.int k n)) (hi : Nat.blt i N = true) (K : ∀ a', Fm N ((i, .bool (decide (m < n))) :: L) a' → wpList P ops Q rest a' w) : wpList P ops Q (o :: rest) a w :=
  sw_val F h.1 h.2.2 hi (by unfold execOp; rw [h.2.1]; simp [F.ev h1, F.ev h2, eqGuard_at_int, binOp_lss]) K
theorem sw_leq (F : Fm N L a) (h : Is o (some i) (.binOp .leq t x y u)) (h1 : opv L x = some (.int k m)) (h2 : opv L y = some (.int k n)) (hi : Nat.blt i N = true) (K : ∀ a', Fm N ((i, .bool (decide (m ≤ n))) :: L) a' → wpList P ops Q rest a' w) : wpList P ops Q (o :: rest) a w :=
  sw_val F h.1 h.2.2 hi (by unfold execOp; rw [h.2.1]; simp [F.ev h1, F.ev h2, eqGuard_at_int, binOp_leq]) K
theorem sw_gtr (F : Fm N L a) (h : Is o (some i) (.binOp .gtr t x y u)) (h1 : opv L x = some (.int k m)) (h2 : opv L y = some (.int k n)) (hi : Nat.blt i N = true) (K : ∀ a', Fm N ((i, .bool (decide (n < m))) :: L) a' → wpList P ops Q rest a' w) : wpList P ops Q (o :: rest) a w :=
  sw_val F h.1 h.2.2 hi (by unfold execOp; rw [h.2.1]; simp [F.ev h1, F.ev h2, eqGuard_at_int, binOp_gtr]) K
theorem sw_geq (F : Fm N L a) (h : Is o (some i) (.binOp .geq t x y u)) (h1 : opv L x = some (.int k m)) (h2 : opv L y = some (.int k n)) (hi : Nat.blt i N = true) (K : ∀ a', Fm N ((i, .bool (decide (n ≤ m))) :: L) a' → wpList P ops Q rest a' w) : wpList P ops Q (o :: rest) a w :=
  sw_val F h.1 h.2.2 hi (by unfold execOp; rw [h.2.1]; simp [F.ev h1, F.ev h2, eqGuard_at_int, binOp_geq]) K
theorem sw_eql (F : Fm N L a) (h : Is o (some i) (.binOp .eql t x y u)) (h1 : opv L x = some (.int k m)) (h2 : opv L y = some (.int k n)) (hi : Nat.blt i N = true) (K : ∀ a', Fm N ((i, .bool (m == n)) :: L) a' → wpList P ops Q rest a' w) : wpList P ops Q (o :: rest) a w :=
  sw_val F h.1 h.2.2 hi (by unfold execOp; rw [h.2.1]; simp [F.ev h1, F.ev h2, eqGuard_at_int, binOp_eql]) K
theorem sw_neq (F : Fm N L a) (h : Is o (some i) (.binOp .neq t x y u)) (h1 : opv L x = some (.int k m)) (h2 : opv L y = some (.int k n)) (hi : Nat.blt i N = true) (K : ∀ a', Fm N ((i, .bool (m != n)) :: L) a' → wpList P ops Q rest a' w) : wpList P ops Q (o :: rest) a w :=
  sw_val F h.1 h.2.2 hi (by unfold execOp; rw [h.2.1]; simp [F.ev h1, F.ev h2, eqGuard_at_int, binOp_neq]) K
theorem sw_addw (F : Fm N L a) (h : Is o (some i) (.binOp .add t x y u)) (h1 : opv L x = some (.int k m)) (h2 : opv L y = some (.int k n)) (hi : Nat.blt i N = true) (K : ∀ a', Fm N ((i, .int k (k.wrap (m + n))) :: L) a' → wpList P ops Q rest a' w) : wpList P ops Q (o :: rest) a w :=
  sw_val F h.1 h.2.2 hi (by unfold execOp; rw [h.2.1]; simp [F.ev h1, F.ev h2, eqGuard_at_int, binOp_add, Op.intArith]) K
theorem sw_subw (F : Fm N L a) (h : Is o (some i) (.binOp .sub t x y u)) (h1 : opv L x = some (.int k m)) (h2 : opv L y = some (.int k n)) (hi : Nat.blt i N = true) (K : ∀ a', Fm N ((i, .int k (k.wrap (m - n))) :: L) a' → wpList P ops Q rest a' w) : wpList P ops Q (o :: rest) a w :=
  sw_val F h.1 h.2.2 hi (by unfold execOp; rw [h.2.1]; simp [F.ev h1, F.ev h2, eqGuard_at_int, binOp_sub, Op.intArith]) K
theorem sw_mulw (F : Fm N L a) (h : Is o (some i) (.binOp .mul t x y u)) (h1 : opv L x = some (.int k m)) (h2 : opv L y = some (.int k n)) (hi : Nat.blt i N = true) (K : ∀ a', Fm N ((i, .int k (k.wrap (m * n))) :: L) a' → wpList P ops Q rest a' w) : wpList P ops Q (o :: rest) a w :=
  sw_val F h.1 h.2.2 hi (by unfold execOp; rw [h.2.1]; simp [F.ev h1, F.ev h2, eqGuard_at_int, binOp_mul, Op.intArith]) K
theorem sw_seq2 (F : Fm N L a) {s r : Key} (h : Is o (some i) (.binOp .eql t x y u)) (h1 : opv L x = some (.string (str s))) (h2 : opv L y = some (.string (str r))) (hi : Nat.blt i N = true) (K : ∀ a', Fm N ((i, .bool (s == r)) :: L) a' → wpList P ops Q rest a' w) : wpList P ops Q (o :: rest) a w :=
  sw_val F h.1 h.2.2 hi (by
    unfold execOp; rw [h.2.1]; simp [F.ev h1, F.ev h2, eqGuard_at_string, binOp, Op.stringOp, str_toList]) K
theorem sw_conv (F : Fm N L a) (h : Is o (some i) (.convert t u x)) (h1 : opv L x = some (.int k m)) {k2 : IntKind} (ht : (P.underlying t).isSome = true) (hu : P.underlying u = some (.int k2)) (hi : Nat.blt i N = true) (K : ∀ a', Fm N ((i, .int k2 (k2.wrap m)) :: L) a' → wpList P ops Q rest a' w) : wpList P ops Q (o :: rest) a w :=
  sw_val F h.1 h.2.2 hi (by
    have e : P.intKind u = k2 := by simp [Program.intKind, hu]
    unfold execOp; rw [h.2.1]; simp only [F.ev h1, Sem.run_bind]
    rw [run_convert_int (P := P) w t u k m ht (by rw [e]; exact hu), e]
    rfl) K
theorem sw_slen (F : Fm N L a) {s : Key} (h : Is o (some i) (.call { callee := .builtin .len, args := #[x], argTypes := #[t] })) (h1 : opv L x = some (.string (str s))) (hu : P.underlying t = some .string) (hi : Nat.blt i N = true) (K : ∀ a', Fm N ((i, .int .i64 s.length) :: L) a' → wpList P ops Q rest a' w) : wpList P ops Q (o :: rest) a w :=
  sw_val F h.1 h.2.2 hi (by unfold execOp; rw [h.2.1]; simp [resolve, F.ev h1, invoke, builtin, Builtin.len_, run_underlying hu, goInt, str_size]) K
theorem sw_index (F : Fm N L a) {s : Key} {j : Nat} {c : UInt8} (h : Is o (some i) (.index t x y)) (h1 : opv L x = some (.string (str s))) (h2 : opv L y = some (.int .i64 j)) (hc : s[j]? = some c) (hu : P.underlying t = some .string) (hi : Nat.blt i N = true) (K : ∀ a', Fm N ((i, .int .u8 c.toNat) :: L) a' → wpList P ops Q rest a' w) : wpList P ops Q (o :: rest) a w :=
  sw_val F h.1 h.2.2 hi (by
    have hj : j < s.length := (List.getElem?_eq_some_iff.1 hc).1
    have e : (str s)[j]? = some c := by
      rw [getElem?_pos (str s) j (by rw [str_size]; exact hj), str_get s j hj]
      exact hc ▸ (List.getElem?_eq_getElem hj).symm ▸ rfl
    unfold execOp; rw [h.2.1]; simp [F.ev h1, F.ev h2, Instr.index, asIntOf, run_underlying hu, e]) K
theorem sw_slice2 (F : Fm N L a) {s : Key} {l r : Nat} {lo hi : Operand} (h : Is o (some i) (.slice t x (some lo) (some hi) none)) (h1 : opv L x = some (.string (str s))) (h2 : opv L lo = some (.int .i64 l)) (h3 : opv L hi = some (.int .i64 r)) (hlr : l ≤ r ∧ r ≤ s.length) (hu : P.underlying t = some .string) (hi' : Nat.blt i N = true) (K : ∀ a', Fm N ((i, .string (str ((s.take r).drop l))) :: L) a' → wpList P ops Q rest a' w) : wpList P ops Q (o :: rest) a w :=
  sw_val F h.1 h.2.2 hi' (by
    unfold execOp; rw [h.2.1]
    simp [F.ev h1, F.ev h2, F.ev h3, Instr.sliceAt, Instr.slice, Instr.sliceBounds, Instr.sliceBound, asIntOf, run_underlying hu, str_size, hlr.1, hlr.2, ext_both s l r hlr.1 hlr.2]) K
theorem sw_slice1 (F : Fm N L a) {s : Key} {l : Nat} {lo : Operand} (h : Is o (some i) (.slice t x (some lo) none none)) (h1 : opv L x = some (.string (str s))) (h2 : opv L lo = some (.int .i64 l)) (hlr : l ≤ s.length) (hu : P.underlying t = some .string) (hi' : Nat.blt i N = true) (K : ∀ a', Fm N ((i, .string (str (s.drop l))) :: L) a' → wpList P ops Q rest a' w) : wpList P ops Q (o :: rest) a w :=
  sw_val F h.1 h.2.2 hi' (by
    have e := ext_both s l s.length hlr (Nat.le_refl _)
    rw [List.take_length] at e
    unfold execOp; rw [h.2.1]
    simp [F.ev h1, F.ev h2, Instr.sliceAt, Instr.slice, Instr.sliceBounds, Instr.sliceBound, asIntOf, run_underlying hu, str_size, hlr, e]) K
theorem sd_build {md : Region.Mode} {S : World → Prop} {fuel : Nat} {listed : Array Bool} (F : Fm N L a) (j : Nat) {d : Nat} {t : TypeId} {ps : Array (Nat × Operand)} (vs : List Value) (Z : List Value) (hj : ops[j]? = some o) (h : Is o (some d) (.build t ps)) (hv : opvs L (ps.toList.map (·.2)) = some vs) (hb : P.built t ((ps.toList.map (·.1)).zip vs) = some Z.toArray) (hs : Region.noSelect ops = true) (hf : Region.free md ops listed j = true) (hr : (Region.ready md ops listed).contains j = true) (hQ : ∀ c a w, Q (.panic c) (a.put (some d) (.agg Z.toArray)) w → Q (.panic c) a w)
    (hi : Nat.blt d N = true) (hS : S w) (K : ∀ a', Fm N ((d, .agg Z.toArray) :: L) a' → wpAnyH P md ops Q S fuel (listed.setIfInBounds j true) a' w) : wpAnyH P md ops Q S (fuel + 1) listed a w := by
  have e := F.evs hv
  have e2 : (ps.map fun q => (q.1, a.eval q.2)).toList = (ps.toList.map (·.1)).zip vs := by
    rw [Array.toList_map, ← e, List.map_map]
    generalize ps.toList = l
    induction l with
    | nil => rfl
    | cons q r ih => simp only [List.map_cons, List.zip_cons_cons, ih]; rfl
  refine sd_val F j hj hs hf hr hQ h.1 h.2.2 hi (fun w _ => ?_) hS K
  unfold execOp
  rw [h.2.1]
  simp only
  rw [Sem.run_bind, run_build w t _ Z.toArray (by rw [e2]; exact hb)]
  rfl
/-- A variable that lay there before is written anew. -/
theorem sw_setX (F : Fm N L a) {b : Nat} {us cs : List Value} {ty : TypeId} (h : Is o none (.store t x y)) (hx : opv L x = some (.pointer (some ⟨b, 0, none⟩))) (hv : opv L y = some (.agg us.toArray)) (kb : Blk w b cs.toArray ty) (hi : (P.info? t).map (·.size) = some us.length) (hl : us.length = cs.length) (h1 : (us.all fun u => u.oneCell') = true) (K : ∀ w', But (fun k => k = b) w w' → Blk w' b us.toArray ty → wpList P ops Q rest a w') : wpList P ops Q (o :: rest) a w := by
  refine ol_store h.2.2 h.1 h.2.1 (F.ev hx) (F.ev hv) (v := .agg us.toArray) ?_ ?_ ?_ ?_
  · exact kb.thereAt 0 _ (by show 0 + us.toArray.size ≤ _; simp; omega)
  · rw [hi]; simp [Value.cells]
  · intro u hu
    have : u ∈ us := by simpa [Value.cells] using hu
    exact List.all_eq_true.1 h1 u this
  · have e : (Value.agg us.toArray).cells.toList = us := by simp [Value.cells]
    rw [e]
    have := kb.putCells us 0 _ _
    rw [putAt_all (by simp [hl])] at this
    exact K _ (but_cells b us 0 w) this
/-- One of its cells. -/
theorem sw_setX1 (F : Fm N L a) {b q : Nat} {v : Value} {cs : Array Value} {ty : TypeId} (h : Is o none (.store t x y)) (hx : opv L x = some (.pointer (some ⟨b, q, none⟩))) (hv : opv L y = some v) (kb : Blk w b cs ty) (hi : (P.info? t).map (·.size) = some 1) (hn : Nat.blt q cs.size = true) (hc : v.cells = #[v]) (h1 : v.oneCell' = true) (K : ∀ w', But (fun k => k = b) w w' → Blk w' b (cs.setIfInBounds q v) ty → wpList P ops Q rest a w') : wpList P ops Q (o :: rest) a w := by
  refine ol_store h.2.2 h.1 h.2.1 (F.ev hx) (F.ev hv) (v := v) ?_ ?_ ?_ ?_
  · rw [hc]; exact kb.thereAt q 1 (by simp only [Nat.blt_eq] at hn; omega)
  · rw [hc, hi]; rfl
  · rw [hc]; intro u hu; simp at hu; subst hu; exact h1
  · rw [hc]
    exact K _ (But.set (S := fun k => k = b) w (p := ⟨b, q, none⟩) rfl v) (kb.set q v)
/-- A variable and a slot are given. -/
theorem sw_ret2 (F : Fm N L a) {fn : Func} {j b : Nat} {v : Value} {cs : Array Value} {ty : TypeId} {R : Ending → World → Prop} (hres : fn.results = #[.cell i t, .tmp j]) (hi : lk i L = some (ptr b)) (hj : lk j L = some v) (kb : Blk w b cs ty) (ht : rowT P t = true) (hz : (P.info? t).map (·.size) = some cs.size) (hR : R (.returned (.tuple #[.agg cs, v])) w) : bodyPost P fn R .ret a w := by
  obtain ⟨d, hu, hd⟩ := rowT_out ht
  have hld := run_loadVar_mid (P := P) w b 0 t cs.toList d kb.range hu hd (by rw [hz]; simp)
  rw [Array.toArray_toList] at hld
  have at_ : ∀ q u, lk q L = some u → a.tmps[q]?.getD undef = u := fun q u hq => by
    have := F.2.2 q _ hq
    unfold Act.eval at this
    rw [← Array.getD_eq_getD_getElem?]
    exact this
  refine bodyPost_ret (v := .tuple #[.agg cs, v]) ?_ F.2.1 hR
  simp [results, hres, asAddr, at_ i _ hi, at_ j _ hj, ptr, hld]
end
end Go.Proofs.YtgpjlocgkdlnlaaDoor
